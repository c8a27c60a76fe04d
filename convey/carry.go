package convey

import (
	"cmp"
	"slices"

	"theorbo/api"
	"theorbo/piece"
)

// change is what becomes of the events of a piece.
type change struct {
	// chord returns what becomes of each stop of a chord, in the order of the stops. A stop that is left out becomes the zero stop.
	chord func(stops []api.Stop) []api.Stop
	// tie reports whether an event without stops is a tie in the result; its argument tells whether it would be one or a rest.
	tie func(tie bool) bool
	// hold returns the hold of a stop of the result, on whose course longest is the longest one that is possible.
	hold func(st api.Stop, longest int) int
}

// changeOfNotes is a change that leaves out nothing but notes, and the holds that no longer fit.
func changeOfNotes(chord func(stops []api.Stop) []api.Stop) change {
	return change{chord: chord, tie: func(tie bool) bool { return tie }, hold: fittingHold}
}

// eachStop changes the stops of a chord one by one.
func eachStop(stop func(st api.Stop) api.Stop) func(stops []api.Stop) []api.Stop {
	return func(stops []api.Stop) []api.Stop {
		became := make([]api.Stop, len(stops))
		for i, st := range stops {
			became[i] = stop(st)
		}
		return became
	}
}

// fittingHold returns what remains of a hold where longest is the longest one that is possible.
func fittingHold(st api.Stop, longest int) int {
	if st.Fret == 0 {
		return 0
	}
	return min(st.Hold, longest)
}

// carry carries a change through a valid piece. It returns the piece for another instrument, and what was lost.
func carry(p api.Piece, to api.Instrument, c change) (api.Piece, []api.Lack) {
	q := api.Piece{Instrument: api.Instrument{Courses: slices.Clone(to.Courses), Steps: slices.Clone(to.Steps)}}
	var became [][]api.Stop
	for number, ev := range p.Events {
		stops := c.chord(ev.Stops)
		became = append(became, stops)
		ev.Stops = standing(stops)
		if len(ev.Stops) == 0 {
			bare := len(stops) > 0
			ev.Tie = c.tie(ev.Tie || bare && number > 0)
		}
		q.Events = append(q.Events, ev)
	}
	settleHolds(q, c.hold)
	var lost []api.Lack
	for number, stops := range became {
		lost = append(lost, losses(number, p.Events[number], q.Events[number], stops)...)
	}
	return q, lost
}

// standing returns the stops that are not left out, in ascending order of their courses.
func standing(stops []api.Stop) []api.Stop {
	kept := slices.DeleteFunc(slices.Clone(stops), func(st api.Stop) bool { return st == api.Stop{} })
	slices.SortFunc(kept, func(a, b api.Stop) int { return cmp.Compare(a.Course, b.Course) })
	return kept
}

// settleHolds gives the stops of a piece their holds, when all notes, ties and rests are settled.
func settleHolds(q api.Piece, hold func(st api.Stop, longest int) int) {
	for number, ev := range q.Events {
		for i, st := range ev.Stops {
			ev.Stops[i].Hold = hold(st, piece.Longest(q, number, st.Course))
		}
	}
}

// losses returns what an event has lost; became is what has become of its stops.
func losses(number int, before, after api.Event, became []api.Stop) []api.Lack {
	var lost []api.Lack
	lose := func(so bool, course, what int) {
		if so {
			lost = append(lost, api.Lack{Event: number, Course: course, What: what})
		}
	}
	lose(before.Tie && !after.Tie, 0, api.LackTie)
	lose(!before.Tie && len(before.Stops) == 0 && after.Tie, 0, api.LackRest)
	for i, st := range before.Stops {
		at := slices.IndexFunc(after.Stops, func(other api.Stop) bool { return other.Course == became[i].Course })
		if at < 0 {
			lose(true, st.Course, api.LackNote)
			continue
		}
		lose(st.Right != after.Stops[at].Right, st.Course, api.LackRight)
		lose(st.Grace != after.Stops[at].Grace, st.Course, api.LackGrace)
		lose(st.Hold != after.Stops[at].Hold, st.Course, api.LackHold)
	}
	return lost
}

func placeOf(st api.Stop) api.Place {
	return api.Place{Course: st.Course, Fret: st.Fret}
}
