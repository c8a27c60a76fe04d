package leaf

import (
	"slices"

	"theorbo/api"
	"theorbo/instrument"
	"theorbo/lists"
)

// Narrow returns the leaf with the readings of allowed completions alone.
func Narrow(f api.Leaf, r api.Rules) (api.Leaf, api.Errno) {
	if e := check(f, r); e != api.OK {
		return api.Leaf{}, e
	}
	s, e := survey(f, r)
	if e != api.OK {
		return api.Leaf{}, e
	}
	narrowed := api.Leaf{Instrument: copyOf(f.Instrument)}
	for column := range f.Columns {
		narrowed.Columns = append(narrowed.Columns, s.narrow(column))
	}
	return narrowed, api.OK
}

// narrow returns a column with the signs and numbers that occur in allowed completions.
func (s *search) narrow(column int) api.Column {
	c := s.leaf.Columns[column]
	narrowed := api.Column{Bar: c.Bar, Tie: c.Tie, Signs: chosen(s.signWeb, column, c.Signs)}
	played := chosen(s.noteWeb, column, s.readings[column])
	for course, cell := range c.Cells {
		narrowed.Cells = append(narrowed.Cells, slices.DeleteFunc(slices.Clone(cell), func(number int) bool {
			return !slices.ContainsFunc(played, func(n notes) bool { return int(n[course]) == number })
		}))
	}
	return narrowed
}

// chosen returns what is chosen at a column on some way through a web that is pruned; list has what the choices are.
func chosen[T any](w web, column int, list []T) []T {
	leads := make([]bool, len(list))
	for from := range w[column] {
		for choice := range w.steps(column, from) {
			leads[choice] = true
		}
	}
	var kept []T
	for choice, x := range list {
		if leads[choice] {
			kept = append(kept, x)
		}
	}
	return kept
}

// Nearest returns the allowed completion that differs least from a piece.
func Nearest(f api.Leaf, r api.Rules, p api.Piece) (near api.Piece, differences int, e api.Errno) {
	if e := check(f, r); e != api.OK {
		return api.Piece{}, 0, e
	}
	own, e := Of(p)
	if e != api.OK {
		return api.Piece{}, 0, e
	}
	if !instrument.Same(f.Instrument, own.Instrument) || len(f.Columns) != len(own.Columns) {
		return api.Piece{}, 0, api.ErrReading
	}
	s, e := survey(f, r)
	if e != api.OK {
		return api.Piece{}, 0, e
	}
	near, differences = s.nearest(own)
	return near, differences, api.OK
}

// nearest returns the first of the completions that differ least from the only one of another leaf. Signs and notes do not depend on each other: the first ones of each make the first completion.
func (s *search) nearest(own api.Leaf) (near api.Piece, differences int) {
	var signCosts, noteCosts [][]int
	for i, c := range own.Columns {
		sign, played := c.Signs[0], firstNotes(c)
		signCosts = append(signCosts, lists.Changed(s.leaf.Columns[i].Signs, func(other api.Sign) int {
			if other == sign {
				return 0
			}
			return 1
		}))
		noteCosts = append(noteCosts, lists.Changed(s.readings[i], played.differences))
	}
	signs, inSigns := s.signWeb.cheapest(signCosts)
	played, inNotes := s.noteWeb.cheapest(noteCosts)
	return s.completion(signs, played), inSigns + inNotes
}

// differences counts the courses on which two columns do not have the same note.
func (n notes) differences(other notes) int {
	count := 0
	for i, fret := range n {
		if fret != other[i] {
			count++
		}
	}
	return count
}
