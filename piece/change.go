package piece

import (
	"slices"

	"theorbo/api"
	"theorbo/lists"
)

const mostAugmented = lastValue - 1

func cloneInstrument(in api.Instrument) api.Instrument {
	return api.Instrument{Courses: slices.Clone(in.Courses), Steps: slices.Clone(in.Steps)}
}

func cloneEvent(ev api.Event) api.Event {
	ev.Stops = slices.Clone(ev.Stops)
	return ev
}

// rewrite returns a valid piece with what change makes of each event; change gets a copy of the event.
func rewrite(p api.Piece, change func(timed) api.Event) api.Piece {
	q := api.Piece{Instrument: cloneInstrument(p.Instrument)}
	for t := range withTimes(p) {
		t.event = cloneEvent(t.event)
		q.Events = append(q.Events, change(t))
	}
	return q
}

// Plain writes the sign of every event.
func Plain(p api.Piece) (api.Piece, api.Errno) {
	if e := Check(p); e != api.OK {
		return api.Piece{}, e
	}
	return rewrite(p, func(t timed) api.Event {
		t.event.Sign = t.sign
		return t.event
	}), api.OK
}

// Terse leaves out the signs that repeat the one in force.
func Terse(p api.Piece) (api.Piece, api.Errno) {
	if e := Check(p); e != api.OK {
		return api.Piece{}, e
	}
	var before api.Sign
	return rewrite(p, func(t timed) api.Event {
		if t.sign == before {
			t.event.Sign = api.Sign{}
		}
		before = t.sign
		return t.event
	}), api.OK
}

// Bare removes marks, ornaments and holds.
func Bare(p api.Piece) (api.Piece, api.Errno) {
	if e := Check(p); e != api.OK {
		return api.Piece{}, e
	}
	return rewrite(p, func(t timed) api.Event {
		t.event.Stops = lists.Changed(t.event.Stops, func(st api.Stop) api.Stop {
			return api.Stop{Course: st.Course, Fret: st.Fret}
		})
		return t.event
	}), api.OK
}

// Augment makes all values longer or shorter.
func Augment(p api.Piece, by int) (api.Piece, api.Errno) {
	if e := Check(p); e != api.OK {
		return api.Piece{}, e
	}
	if by < -mostAugmented || by > mostAugmented {
		return api.Piece{}, api.ErrArg
	}
	fits := true
	q := rewrite(p, func(t timed) api.Event {
		if value := &t.event.Sign.Value; *value != 0 {
			*value -= by
			fits = fits && *value >= 1 && *value <= lastValue
		}
		return t.event
	})
	if !fits {
		return api.Piece{}, api.ErrSign
	}
	return q, api.OK
}

// Cut returns a stretch of a piece.
func Cut(p api.Piece, from, to int) (api.Piece, api.Errno) {
	if e := Check(p); e != api.OK {
		return api.Piece{}, e
	}
	if from < 0 || from > to || to > len(p.Events) {
		return api.Piece{}, api.ErrArg
	}
	// What this makes of the events outside does not matter: they are cut off.
	q := rewrite(p, func(t timed) api.Event {
		if t.number == from {
			t.event.Sign = t.sign
			t.event.Tie = false
		}
		t.event.Stops = lists.Changed(t.event.Stops, func(st api.Stop) api.Stop {
			st.Hold = min(st.Hold, to-1-t.number)
			return st
		})
		return t.event
	})
	q.Events = slices.Clone(q.Events[from:to])
	return q, api.OK
}
