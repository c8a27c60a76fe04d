package notation

import (
	"slices"

	"theorbo/api"
)

// figureFrets are the figures of the frets.
const figureFrets = "0123456789x"

// italianOpen are the figures of the courses outside the staff.
var italianOpen = [...]string{"7", "8", "9", "x", "11", "12", "13", "14"}

// figures is what the systems with figures share.
type figures struct{ topDown }

func (figures) letters() string { return figureFrets }

// figure returns the symbol of a place on a line.
func (figures) figure(pl api.Place) string {
	if pl.Course > maxLines {
		return ""
	}
	return at(figureFrets, pl.Fret)
}

type italian struct {
	figures
	starred
}

func (italian) name() string { return "italian" }

func (s italian) staff(lines int) []int {
	courses := s.topDown.staff(lines)
	slices.Reverse(courses)
	return courses
}

func (italian) lowFirst() bool { return true }

func (s italian) symbol(pl api.Place) string {
	if pl.Course > maxLines && pl.Fret == 0 {
		return italianOpen[pl.Course-maxLines-1]
	}
	return s.figure(pl)
}

func (italian) graces() string { return "-t-#-" }

type spanish struct{ figures }

func (spanish) name() string { return "spanish" }

func (s spanish) symbol(pl api.Place) string { return s.figure(pl) }

func (spanish) rights() string { return "----" }

func (spanish) graces() string { return "-----" }

func (spanish) hold(length, longest int) string { return "" }

func (spanish) lacks(what int) bool { return what == api.LackRest }
