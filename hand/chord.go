package hand

import (
	"slices"

	"theorbo/api"
	"theorbo/ints"
	"theorbo/sound"
)

// CheckChords returns ErrMany or ErrArg unless the sequence of chords is valid.
func CheckChords(l []api.Chord) api.Errno {
	if len(l) > api.MaxEvents {
		return api.ErrMany
	}
	for i, c := range l {
		if !validChord(c) || i > 0 && !stays(l[i-1], c) {
			return api.ErrArg
		}
	}
	return api.OK
}

func validChord(c api.Chord) bool {
	for i, pl := range c.Down {
		if !ints.Within(pl.Course, 1, api.MaxCourses) || !ints.Within(pl.Fret, 1, api.MaxFrets) {
			return false
		}
		if i > 0 && pl.Course <= c.Down[i-1].Course {
			return false
		}
	}
	for i, course := range c.Held {
		if i > 0 && course <= c.Held[i-1] || fretOf(c, course) == 0 {
			return false
		}
	}
	for i, course := range c.Open {
		if i > 0 && course <= c.Open[i-1] || !ints.Within(course, 1, api.MaxCourses) || fretOf(c, course) > 0 {
			return false
		}
	}
	return true
}

// fretOf returns the fret at which a course is down, and 0 if it is not.
func fretOf(c api.Chord, course int) int {
	for _, pl := range c.Down {
		if pl.Course == course {
			return pl.Fret
		}
	}
	return 0
}

// stays reports whether each finger that a chord holds was on its place in the chord before.
func stays(before, c api.Chord) bool {
	for _, course := range c.Held {
		if fretOf(before, course) != fretOf(c, course) {
			return false
		}
	}
	return true
}

// Chords returns what the left hand has to do in each event of a piece.
func Chords(p api.Piece) ([]api.Chord, api.Errno) {
	rows, e := sound.Courses(p)
	if e != api.OK {
		return nil, e
	}
	chords := make([]api.Chord, len(rows))
	for i, row := range rows {
		chords[i] = chordOf(row, p.Events[i].Stops)
	}
	return chords, api.OK
}

// chordOf returns the chord of an event with these stops; frets are those of all courses, as sound.Courses returns them.
func chordOf(frets []int, stops []api.Stop) api.Chord {
	var c api.Chord
	for i, fret := range frets {
		course := i + 1
		switch {
		case fret > 0:
			c.Down = append(c.Down, api.Place{Course: course, Fret: fret})
			if !slices.ContainsFunc(stops, func(st api.Stop) bool { return st.Course == course }) {
				c.Held = append(c.Held, course)
			}
		case fret == 0:
			c.Open = append(c.Open, course)
		}
	}
	return c
}
