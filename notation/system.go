package notation

import "theorbo/api"

// system tells how one of the systems writes notes and marks, where they stand, and what it does not have. What it writes is read by looking for it.
type system interface {
	name() string
	// staff returns the courses that stand on the lines, from top to bottom.
	staff(lines int) []int
	// lowFirst reports whether the notes outside the staff stand before the lines, the lowest course first.
	lowFirst() bool
	// letters returns the bytes that occur in symbols. None of them begins a mark.
	letters() string
	// symbol returns the symbol of a place, or nothing if there is none.
	symbol(pl api.Place) string
	// rights and graces return the marks of the right hand and of the ornaments, as markAt reads them.
	rights() string
	graces() string
	// hold returns the mark of a hold that is not 0, or nothing if there is none.
	hold(length, longest int) string
	// lacks reports whether the system does not have triplets, missing signs, ties or rests.
	lacks(what int) bool
}

func systemOf(sys api.System) (system, bool) {
	switch sys {
	case api.French:
		return french{}, true
	case api.Italian:
		return italian{}, true
	case api.Spanish:
		return spanish{}, true
	case api.German:
		return german{}, true
	}
	return nil, false
}

// topDown is what most systems with lines share: course 1 is at the top, and nothing is lacking.
type topDown struct{}

func (topDown) staff(lines int) []int {
	courses := make([]int, lines)
	for i := range courses {
		courses[i] = i + 1
	}
	return courses
}

func (topDown) lowFirst() bool { return false }

func (topDown) lacks(what int) bool { return false }

// starred is what the systems share that mark a hold only if it is the longest one.
type starred struct{}

func (starred) rights() string { return "-.--" }

func (starred) hold(length, longest int) string {
	if length != longest {
		return ""
	}
	return "*"
}

// at returns one byte of a list, or nothing behind its end.
func at(list string, i int) string {
	if i >= len(list) {
		return ""
	}
	return list[i : i+1]
}
