package notation

import "theorbo/api"

const (
	// germanLetters go through the courses 5 to 1 at each of the frets 1 to 5.
	germanLetters = "abcdefghiklmnopqrstvxyz&9"
	germanOpen    = "54321"       // the courses 1 to 5
	germanSixth   = "+ABCDEFGHIK" // the frets of course 6
	germanCourses = 5
	germanFrets   = 5
)

type german struct{ starred }

func (german) name() string { return "german" }

func (german) staff(lines int) []int { return nil }

func (german) lowFirst() bool { return false }

func (german) letters() string { return germanLetters + germanOpen + germanSixth }

func (german) symbol(pl api.Place) string {
	switch {
	case pl.Course == germanCourses+1:
		return at(germanSixth, pl.Fret)
	case pl.Course > germanCourses || pl.Fret > 2*germanFrets:
		return ""
	case pl.Fret == 0:
		return at(germanOpen, pl.Course-1)
	}
	row := (pl.Fret - 1) % germanFrets
	letter := at(germanLetters, row*germanCourses+germanCourses-pl.Course)
	if pl.Fret > germanFrets {
		return letter + letter
	}
	return letter
}

func (german) graces() string { return "---#-" }

func (german) lacks(what int) bool {
	return what == api.LackThree || what == api.LackSign || what == api.LackTie
}
