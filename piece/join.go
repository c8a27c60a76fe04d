package piece

import (
	"slices"

	"theorbo/api"
	"theorbo/instrument"
	"theorbo/lists"
)

// Append returns two pieces one after the other.
func Append(a, b api.Piece) (api.Piece, api.Errno) {
	if e := Check(a); e != api.OK {
		return api.Piece{}, e
	}
	if e := Check(b); e != api.OK {
		return api.Piece{}, e
	}
	if !instrument.Same(a.Instrument, b.Instrument) {
		return api.Piece{}, api.ErrInstrument
	}
	if len(a.Events)+len(b.Events) > api.MaxEvents {
		return api.Piece{}, api.ErrMany
	}
	return api.Piece{
		Instrument: cloneInstrument(a.Instrument),
		Events:     lists.Changed(slices.Concat(a.Events, b.Events), cloneEvent),
	}, api.OK
}

// Join merges ties into the events that they prolong.
func Join(p api.Piece) (api.Piece, api.Errno) {
	if e := Check(p); e != api.OK {
		return api.Piece{}, e
	}
	q := api.Piece{Instrument: cloneInstrument(p.Instrument)}
	var became []int
	current := 0 // the ticks of the current event
	for t := range withTimes(p) {
		length := t.to - t.from
		sign, ok := signOf(current + length)
		if ok && t.event.Tie && !t.event.Bar {
			q.Events[len(q.Events)-1].Sign = sign
			current += length
		} else {
			t.event.Sign = t.sign
			t.event.Stops = nil
			q.Events = append(q.Events, t.event)
			current = length
		}
		became = append(became, len(q.Events)-1)
	}
	moveHolds(p.Events, q.Events, became)
	return q, api.OK
}

// Break writes bar lines at equal distances and divides the events that cross them.
func Break(p api.Piece, bar int) (api.Piece, api.Errno) {
	if e := Check(p); e != api.OK {
		return api.Piece{}, e
	}
	if bar < 1 || bar > api.MaxTicks {
		return api.Piece{}, api.ErrArg
	}
	q := api.Piece{Instrument: cloneInstrument(p.Instrument)}
	var became []int
	for t := range withTimes(p) {
		events, e := divide(t, bar)
		if e != api.OK {
			return api.Piece{}, e
		}
		became = append(became, len(q.Events))
		q.Events = append(q.Events, events...)
	}
	if len(q.Events) > api.MaxEvents {
		return api.Piece{}, api.ErrMany
	}
	moveHolds(p.Events, q.Events, became)
	if slices.ContainsFunc(q.Events, holdsTooLong) {
		return api.Piece{}, api.ErrHold
	}
	return q, api.OK
}

// divide returns the events, without stops, that an event becomes when bar lines stand at all multiples of bar.
func divide(t timed, bar int) ([]api.Event, api.Errno) {
	var events []api.Event
	// An event that is not divided is one part, for which Signs returns its own sign.
	for from := t.from; from < t.to; {
		part := min(t.to-from, bar-from%bar)
		signs, e := Signs(part)
		if e != api.OK {
			return nil, api.ErrTime
		}
		for _, s := range signs {
			events = append(events, api.Event{Bar: from > 0 && from%bar == 0, Sign: s, Tie: !isRest(t.event)})
			from += Ticks(s)
		}
	}
	events[0].Tie = t.event.Tie
	return events, api.OK
}

// moveHolds gives the events of a result their stops, with holds that reach the event that the last held one has become.
func moveHolds(before, after []api.Event, became []int) {
	for i, ev := range before {
		// A tie that has been merged brings no stops.
		if len(ev.Stops) == 0 {
			continue
		}
		after[became[i]].Stops = lists.Changed(ev.Stops, func(st api.Stop) api.Stop {
			st.Hold = became[i+st.Hold] - became[i]
			return st
		})
	}
}

func holdsTooLong(ev api.Event) bool {
	return slices.ContainsFunc(ev.Stops, func(st api.Stop) bool { return st.Hold > api.MaxHold })
}
