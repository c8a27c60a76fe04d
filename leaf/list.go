package leaf

import (
	"theorbo/api"
	"theorbo/ints"
)

// survey searches a leaf, and prunes the webs.
func survey(f api.Leaf, r api.Rules) (*search, api.Errno) {
	s := newSearch(f, r)
	if _, e := s.explore(); e != api.OK {
		return nil, e
	}
	s.signWeb.prune()
	s.noteWeb.prune()
	return s, api.OK
}

// List returns the first allowed completions in order.
func List(f api.Leaf, r api.Rules, most int) ([]api.Piece, api.Errno) {
	if e := check(f, r); e != api.OK {
		return nil, e
	}
	if !ints.Within(most, 1, api.MaxList) {
		return nil, api.ErrArg
	}
	s, e := survey(f, r)
	if e != api.OK {
		return nil, e
	}
	return s.list(most), api.OK
}

func (s *search) list(most int) []api.Piece {
	var all []api.Piece
	var signs, played []int // the choices of the columns so far
	// complete goes on from a situation in all ways, until there are enough completions.
	var complete func(time, posture int)
	complete = func(time, posture int) {
		column := len(signs)
		if column == len(s.leaf.Columns) {
			all = append(all, s.completion(signs, played))
			return
		}
		for sign, nextTime := range s.signWeb.steps(column, time) {
			for read, nextPosture := range s.noteWeb.steps(column, posture) {
				signs, played = append(signs, sign), append(played, read)
				complete(nextTime, nextPosture)
				signs, played = signs[:column], played[:column]
				if len(all) == most {
					return
				}
			}
		}
	}
	complete(0, 0)
	return all
}

// completion returns the completion with these choices of signs and of notes.
func (s *search) completion(signs, played []int) api.Piece {
	p := api.Piece{Instrument: copyOf(s.leaf.Instrument)}
	for i, c := range s.leaf.Columns {
		p.Events = append(p.Events, eventOf(c, c.Signs[signs[i]], s.readings[i][played[i]]))
	}
	return p
}

// Count returns how many allowed completions there are.
func Count(f api.Leaf, r api.Rules) (int, api.Errno) {
	if e := check(f, r); e != api.OK {
		return 0, e
	}
	s := newSearch(f, r)
	switch _, e := s.explore(); e {
	case api.OK:
		bySigns, byNotes := s.signWeb.count(), s.noteWeb.count()
		if bySigns > api.MaxCount/byNotes {
			return api.MaxCount, api.OK
		}
		return bySigns * byNotes, api.OK
	case api.ErrNoReading:
		return 0, api.OK
	default:
		return 0, e
	}
}

// Stuck returns the column at which no allowed completion is left.
func Stuck(f api.Leaf, r api.Rules) (int, api.Errno) {
	if e := check(f, r); e != api.OK {
		return 0, e
	}
	switch at, e := newSearch(f, r).explore(); e {
	case api.OK:
		return 0, api.ErrNone
	case api.ErrNoReading:
		return at, api.OK
	default:
		return 0, e
	}
}
