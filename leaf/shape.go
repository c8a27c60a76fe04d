package leaf

import (
	"cmp"
	"slices"

	"theorbo/api"
	"theorbo/instrument"
)

// sameShape reports whether two leaves have the same shape.
func sameShape(a, b api.Leaf) bool {
	return instrument.Same(a.Instrument, b.Instrument) &&
		slices.EqualFunc(a.Columns, b.Columns, func(c, d api.Column) bool { return c.Bar == d.Bar && c.Tie == d.Tie })
}

// checkBoth looks at two leaves, which are to have the same shape.
func checkBoth(a, b api.Leaf) api.Errno {
	if e := cmp.Or(Check(a), Check(b)); e != api.OK {
		return e
	}
	if !sameShape(a, b) {
		return api.ErrReading
	}
	return api.OK
}

// Within reports whether all readings of a are readings of b.
func Within(a, b api.Leaf) (bool, api.Errno) {
	if e := checkBoth(a, b); e != api.OK {
		return false, e
	}
	return within(a, b), api.OK
}

// within looks at leaves of the same shape.
func within(a, b api.Leaf) bool {
	return slices.EqualFunc(a.Columns, b.Columns, func(c, d api.Column) bool {
		return hasAll(d.Signs, c.Signs) && slices.EqualFunc(d.Cells, c.Cells, hasAll)
	})
}

// hasAll reports whether a list has all elements of another one.
func hasAll[T comparable](list, other []T) bool {
	return !slices.ContainsFunc(other, func(x T) bool { return !slices.Contains(list, x) })
}

// Meet returns the leaf with the readings that both have.
func Meet(a, b api.Leaf) (api.Leaf, api.Errno) {
	if e := checkBoth(a, b); e != api.OK {
		return api.Leaf{}, e
	}
	f := combined(a, b, common[api.Sign], common[int])
	// What both have is valid, unless nothing is left in some place.
	if Check(f) != api.OK {
		return api.Leaf{}, api.ErrNoReading
	}
	return f, api.OK
}

// Join returns the leaf with the readings that at least one has.
func Join(a, b api.Leaf) (api.Leaf, api.Errno) {
	if e := checkBoth(a, b); e != api.OK {
		return api.Leaf{}, e
	}
	return combined(a, b, union(compareSigns), union(cmp.Compare[int])), api.OK
}

// combined returns a leaf of the same shape as a and b, with what signs and cells make of theirs.
func combined(a, b api.Leaf, signs func(a, b []api.Sign) []api.Sign, cells func(a, b []int) []int) api.Leaf {
	f := api.Leaf{Instrument: copyOf(a.Instrument)}
	for i, c := range a.Columns {
		d := b.Columns[i]
		column := api.Column{Bar: c.Bar, Tie: c.Tie, Signs: signs(c.Signs, d.Signs)}
		for course, cell := range c.Cells {
			column.Cells = append(column.Cells, cells(cell, d.Cells[course]))
		}
		f.Columns = append(f.Columns, column)
	}
	return f
}

// common returns those elements of a list that another one has, too.
func common[T comparable](a, b []T) []T {
	return slices.DeleteFunc(slices.Clone(a), func(x T) bool { return !slices.Contains(b, x) })
}

// union returns a function that returns the elements of two ascending lists in order, each of them once.
func union[T comparable](compare func(a, b T) int) func(a, b []T) []T {
	return func(a, b []T) []T {
		all := slices.Concat(a, b)
		slices.SortFunc(all, compare)
		return slices.Compact(all)
	}
}
