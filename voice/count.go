package voice

import (
	"cmp"
	"slices"

	"theorbo/api"
)

// Count returns how many valid assignments there are.
func Count(l api.Limits, notes []api.Note) (int, api.Errno) {
	if e := check(l, notes); e != api.OK {
		return 0, e
	}
	s := newSearch(l, notes)
	switch _, e := s.explore(); e {
	case api.OK:
		return s.layers[len(s.events)].ways[0], api.OK
	case api.ErrNoVoices:
		return 0, api.OK
	default:
		return 0, e
	}
}

// Stuck returns the first event such that the notes up to it have no valid assignment.
func Stuck(l api.Limits, notes []api.Note) (int, api.Errno) {
	if e := check(l, notes); e != api.OK {
		return 0, e
	}
	s := newSearch(l, notes)
	switch at, e := s.explore(); e {
	case api.OK:
		return 0, api.ErrNone
	case api.ErrNoVoices:
		return notes[s.events[at].first].Event, api.OK
	default:
		return 0, e
	}
}

// Fewest returns the smallest set of voices that suffices.
func Fewest(l api.Limits, notes []api.Note) ([]int, api.Errno) {
	if e := check(l, notes); e != api.OK {
		return nil, e
	}
	if len(notes) == 0 {
		return nil, api.OK
	}
	for _, set := range sets(len(l.Low)) {
		switch _, e := newSearch(keep(l, set), notes).explore(); e {
		case api.OK:
			return set, api.OK
		case api.ErrNoVoices:
		default:
			return nil, e
		}
	}
	return nil, api.ErrNoVoices
}

// sets returns all sets of at least one of the voices from 1 to n, first the smaller ones.
func sets(n int) [][]int {
	var all [][]int
	for bits := 1; bits < 1<<n; bits++ {
		var set []int
		for voice := range n {
			if bits>>voice&1 == 1 {
				set = append(set, voice+1)
			}
		}
		all = append(all, set)
	}
	slices.SortFunc(all, func(a, b []int) int {
		return cmp.Or(cmp.Compare(len(a), len(b)), slices.Compare(a, b))
	})
	return all
}

// keep returns the limits with these voices alone.
func keep(l api.Limits, set []int) api.Limits {
	kept := api.Limits{Leap: l.Leap, Gap: l.Gap, Cross: l.Cross}
	for _, voice := range set {
		kept.Low = append(kept.Low, l.Low[voice-1])
		kept.High = append(kept.High, l.High[voice-1])
	}
	return kept
}
