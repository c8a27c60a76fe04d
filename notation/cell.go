package notation

import (
	"strings"

	"theorbo/api"
)

const (
	lastRight = 3
	lastGrace = 4
	noMark    = '-' // in a list of marks
)

// Symbol returns the symbol of a place.
func Symbol(sys api.System, pl api.Place) (string, api.Errno) {
	way, ok := systemOf(sys)
	if !ok {
		return "", api.ErrSystem
	}
	if e := checkPlace(pl); e != api.OK {
		return "", e
	}
	symbol := way.symbol(pl)
	if symbol == "" {
		return "", api.ErrCannot
	}
	return symbol, api.OK
}

func checkPlace(pl api.Place) api.Errno {
	if pl.Course < 1 || pl.Course > api.MaxCourses {
		return api.ErrCourse
	}
	if pl.Fret < 0 || pl.Fret > api.MaxFrets {
		return api.ErrFret
	}
	return api.OK
}

// Place returns the place of a symbol.
func Place(sys api.System, course int, s string) (api.Place, api.Errno) {
	way, e := systemWithLine(sys, course)
	if e != api.OK {
		return api.Place{}, e
	}
	pl, ok := findPlace(way, course, s)
	if !ok {
		return api.Place{}, api.ErrForm
	}
	return pl, api.OK
}

// systemWithLine returns a system in which a symbol can stand on the line of a course, or outside the staff for 0.
func systemWithLine(sys api.System, course int) (system, api.Errno) {
	way, ok := systemOf(sys)
	if !ok {
		return nil, api.ErrSystem
	}
	if course < 0 || course > len(way.staff(maxLines)) {
		return nil, api.ErrCourse
	}
	return way, api.OK
}

// findPlace returns the place that has a symbol on the line of a course or, for 0, outside the staff.
func findPlace(way system, course int, symbol string) (api.Place, bool) {
	// A place without a symbol is not the place of an empty text.
	if symbol == "" {
		return api.Place{}, false
	}
	first, last := course, course
	if course == 0 {
		first, last = len(way.staff(maxLines))+1, api.MaxCourses
	}
	for c := first; c <= last; c++ {
		for fret := range api.MaxFrets + 1 {
			pl := api.Place{Course: c, Fret: fret}
			if way.symbol(pl) == symbol {
				return pl, true
			}
		}
	}
	return api.Place{}, false
}

// Cell returns the cell of a stop.
func Cell(sys api.System, st api.Stop, longest int) (string, api.Errno) {
	way, ok := systemOf(sys)
	if !ok {
		return "", api.ErrSystem
	}
	if e := checkPlace(placeOf(st)); e != api.OK {
		return "", e
	}
	if st.Right < 0 || st.Right > lastRight || st.Grace < 0 || st.Grace > lastGrace {
		return "", api.ErrMark
	}
	if !isHold(longest) || st.Hold < 0 || st.Hold > longest || st.Fret == 0 && st.Hold > 0 {
		return "", api.ErrHold
	}
	if len(lacksOfStop(way, st, longest)) > 0 {
		return "", api.ErrCannot
	}
	return cell(way, st, longest), api.OK
}

func placeOf(st api.Stop) api.Place {
	return api.Place{Course: st.Course, Fret: st.Fret}
}

func isHold(length int) bool {
	return length >= 0 && length <= api.MaxHold
}

// lacksOfStop returns what a system cannot say of a stop.
func lacksOfStop(way system, st api.Stop, longest int) []int {
	if way.symbol(placeOf(st)) == "" {
		return []int{api.LackNote}
	}
	var lacks []int
	if st.Right > 0 && markAt(way.rights(), st.Right) == "" {
		lacks = append(lacks, api.LackRight)
	}
	if st.Grace > 0 && markAt(way.graces(), st.Grace) == "" {
		lacks = append(lacks, api.LackGrace)
	}
	if st.Hold > 0 && holdMark(way, st.Hold, longest) == "" {
		lacks = append(lacks, api.LackHold)
	}
	return lacks
}

// markAt returns the mark of a value, or nothing if there is none; a list has a byte for each value from 0 on.
func markAt(list string, value int) string {
	if list[value] == noMark {
		return ""
	}
	return at(list, value)
}

func holdMark(way system, length, longest int) string {
	if length == 0 {
		return ""
	}
	return way.hold(length, longest)
}

// cell returns the cell of a stop of which the system lacks nothing.
func cell(way system, st api.Stop, longest int) string {
	return way.symbol(placeOf(st)) +
		markAt(way.rights(), st.Right) +
		markAt(way.graces(), st.Grace) +
		holdMark(way, st.Hold, longest)
}

// ParseCell returns the stop of a cell.
func ParseCell(sys api.System, course int, t string, longest int) (api.Stop, api.Errno) {
	way, e := systemWithLine(sys, course)
	if e != api.OK {
		return api.Stop{}, e
	}
	if !isHold(longest) {
		return api.Stop{}, api.ErrHold
	}
	st, ok := readCell(way, course, t, longest)
	if !ok {
		return api.Stop{}, api.ErrForm
	}
	return st, api.OK
}

func readCell(way system, course int, t string, longest int) (api.Stop, bool) {
	symbol, rest := cutSymbol(way, t)
	pl, placed := findPlace(way, course, symbol)
	right, rest := cutMark(way.rights(), rest)
	grace, rest := cutMark(way.graces(), rest)
	hold, held := findHold(way, rest, longest)
	if !placed || !held || pl.Fret == 0 && hold > 0 {
		return api.Stop{}, false
	}
	return api.Stop{Course: pl.Course, Fret: pl.Fret, Right: right, Grace: grace, Hold: hold}, true
}

// cutSymbol divides a cell behind its symbol.
func cutSymbol(way system, t string) (symbol, rest string) {
	letters := way.letters()
	for i, letter := range t {
		if !strings.ContainsRune(letters, letter) {
			return t[:i], t[i:]
		}
	}
	return t, ""
}

// cutMark returns the value of the mark at the beginning of a text, or 0, and the text behind it.
func cutMark(list, t string) (value int, rest string) {
	if t == "" || t[0] == noMark {
		return 0, t
	}
	value = strings.IndexByte(list, t[0])
	if value < 0 {
		return 0, t
	}
	return value, t[1:]
}

// findHold returns the hold that has a mark where longest is the longest one.
func findHold(way system, mark string, longest int) (int, bool) {
	if mark == "" {
		return 0, true
	}
	for length := 1; length <= longest; length++ {
		if holdMark(way, length, longest) == mark {
			return length, true
		}
	}
	return 0, false
}
