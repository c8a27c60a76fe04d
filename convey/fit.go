package convey

import (
	"cmp"
	"slices"

	"theorbo/api"
	"theorbo/instrument"
	"theorbo/piece"
)

// note is a note of a chord that is to be placed on another instrument.
type note struct {
	stop   int // its number in the chord
	target int
	places []api.Place // all that have the target, the best one first
}

// courseSet tells of each course, by its number, whether it belongs to the set.
type courseSet [api.MaxCourses + 1]bool

// Fit returns a piece on another instrument.
func Fit(p api.Piece, to api.Instrument, by int) (api.Piece, []api.Lack, api.Errno) {
	if e := piece.Check(p); e != api.OK {
		return api.Piece{}, nil, e
	}
	if e := instrument.Check(to); e != api.OK {
		return api.Piece{}, nil, e
	}
	if by < -api.MaxPitch || by > api.MaxPitch {
		return api.Piece{}, nil, api.ErrArg
	}
	q, lost := carry(p, to, changeOfNotes(func(stops []api.Stop) []api.Stop {
		var notes []note
		for i, st := range stops {
			pitch, _ := instrument.At(p.Instrument, placeOf(st))
			notes = append(notes, note{i, pitch + by, bestPlaces(to, pitch+by)})
		}
		return placed(stops, chosen(notes))
	}))
	return q, lost, api.OK
}

// bestPlaces returns the places of a target, those with the lowest frets first, and of equal frets the lowest course.
func bestPlaces(in api.Instrument, target int) []api.Place {
	// A target that is no pitch has no places.
	places, _ := instrument.Places(in, target)
	slices.SortStableFunc(places, func(a, b api.Place) int { return cmp.Compare(a.Fret, b.Fret) })
	return places
}

// chosen returns the notes of a chord that are kept, in the order of the chord.
func chosen(notes []note) []note {
	var kept []note
	for _, n := range byImportance(notes) {
		if more := append(slices.Clone(kept), n); canPlace(more, courseSet{}) {
			kept = more
		}
	}
	slices.SortFunc(kept, func(a, b note) int { return cmp.Compare(a.stop, b.stop) })
	return kept
}

// byImportance returns the notes of a chord in the order in which they are chosen: the highest one, the lowest one, then the others downwards.
func byImportance(notes []note) []note {
	ranked := slices.Clone(notes)
	slices.SortStableFunc(ranked, func(a, b note) int { return cmp.Compare(b.target, a.target) })
	if last := len(ranked) - 1; last > 0 {
		ranked = slices.Insert(ranked[:last], 1, ranked[last])
	}
	return ranked
}

// canPlace reports whether there are different courses for all notes, none of them taken.
func canPlace(notes []note, taken courseSet) bool {
	var owners [api.MaxCourses + 1]int // for each course the note that has it, counted from 1
	var tried courseSet
	// find gives a note a course; the note that has it already must find another one.
	var find func(i int) bool
	find = func(i int) bool {
		for _, pl := range notes[i].places {
			if tried[pl.Course] {
				continue
			}
			tried[pl.Course] = true
			owner := owners[pl.Course]
			if owner == 0 || find(owner-1) {
				owners[pl.Course] = i + 1
				return true
			}
		}
		return false
	}
	for i := range notes {
		tried = taken
		if !find(i) {
			return false
		}
	}
	return true
}

// placed returns what becomes of the stops of a chord when the kept notes, which can all be placed, get their places one after another.
func placed(stops []api.Stop, kept []note) []api.Stop {
	became := make([]api.Stop, len(stops))
	var taken courseSet
notes:
	for i, n := range kept {
		for _, pl := range n.places {
			if taken[pl.Course] {
				continue
			}
			taken[pl.Course] = true
			if canPlace(kept[i+1:], taken) {
				became[n.stop] = stops[n.stop]
				became[n.stop].Course, became[n.stop].Fret = pl.Course, pl.Fret
				continue notes
			}
			taken[pl.Course] = false
		}
	}
	return became
}
