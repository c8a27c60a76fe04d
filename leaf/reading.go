package leaf

import (
	"iter"

	"theorbo/api"
)

// noNote stands for the fret of a course that has no note.
const noNote = -1

// notes has for each course a fret, or noNote. (An instrument may have fewer courses: the others have no notes.)
type notes [api.MaxCourses]int8

// silence returns the notes of a rest.
func silence() notes {
	var n notes
	for i := range n {
		n[i] = noNote
	}
	return n
}

// readings goes through the ways to read the notes of a column, in order. (The sign is read independently of them.)
func readings(c api.Column) iter.Seq[notes] {
	return func(yield func(notes) bool) {
		n := silence()
		// read reads the courses from one on in all ways, and reports whether more are asked for.
		var read func(course int) bool
		read = func(course int) bool {
			if course == len(c.Cells) {
				return yield(n)
			}
			for _, number := range c.Cells[course] {
				n[course] = int8(number)
				if !read(course + 1) {
					return false
				}
			}
			return true
		}
		read(0)
	}
}

// firstNotes returns the notes of the first reading of a column.
func firstNotes(c api.Column) (n notes) {
	for n = range readings(c) {
		break
	}
	return n
}

// choices returns how many readings a column has; MaxChoices + 1 stands for all numbers above MaxChoices.
func choices(c api.Column) int {
	count := len(c.Signs)
	for _, cell := range c.Cells {
		count = min(count*len(cell), api.MaxChoices+1)
	}
	return count
}

// stops returns notes as the stops of an event.
func (n notes) stops() []api.Stop {
	var stops []api.Stop
	for i, fret := range n {
		if fret != noNote {
			stops = append(stops, api.Stop{Course: i + 1, Fret: int(fret)})
		}
	}
	return stops
}

// eventOf returns the event of a completion for a column.
func eventOf(c api.Column, sign api.Sign, n notes) api.Event {
	return api.Event{Bar: c.Bar, Sign: sign, Tie: c.Tie, Stops: n.stops()}
}
