// Package instrument describes fretted instruments: pitches and their names, courses, places, standard tunings, scordatura and the capo. See shared/doc/01-instrument.md.
package instrument

import (
	"cmp"
	"slices"

	"theorbo/api"
)

// Check returns the first error of an instrument.
func Check(in api.Instrument) api.Errno {
	if len(in.Courses) > api.MaxCourses || len(in.Steps) > api.MaxFrets {
		return api.ErrMany
	}
	if len(in.Courses) == 0 || !stepsRise(in.Steps) {
		return api.ErrInstrument
	}
	for _, c := range in.Courses {
		if e := checkCourse(c, in.Steps); e != api.OK {
			return e
		}
	}
	return api.OK
}

func stepsRise(steps []int) bool {
	before := 0
	for _, s := range steps {
		if s <= before || s > api.MaxPitch {
			return false
		}
		before = s
	}
	return true
}

func checkCourse(c api.Course, steps []int) api.Errno {
	if c.Frets < 0 || c.Frets > len(steps) {
		return api.ErrFret
	}
	// The open pitch comes first: only a pitch can be added to without overflow.
	if !isPitch(c.Pitch) {
		return api.ErrPitch
	}
	highest := c.Pitch + rise(steps, c.Frets)
	if c.Octave {
		highest += semitones
	}
	if highest > api.MaxPitch {
		return api.ErrPitch
	}
	return api.OK
}

// rise returns the semitones from the open string to a fret.
func rise(steps []int, fret int) int {
	if fret == 0 {
		return 0
	}
	return steps[fret-1]
}

func hasCourse(in api.Instrument, course int) bool {
	return course >= 1 && course <= len(in.Courses)
}

// At returns the pitch of a place.
func At(in api.Instrument, pl api.Place) (int, api.Errno) {
	if e := Check(in); e != api.OK {
		return 0, e
	}
	if !hasCourse(in, pl.Course) {
		return 0, api.ErrCourse
	}
	c := in.Courses[pl.Course-1]
	if pl.Fret < 0 || pl.Fret > c.Frets {
		return 0, api.ErrFret
	}
	return c.Pitch + rise(in.Steps, pl.Fret), api.OK
}

// Places returns all places of a pitch.
func Places(in api.Instrument, pitch int) ([]api.Place, api.Errno) {
	if e := Check(in); e != api.OK {
		return nil, e
	}
	if !isPitch(pitch) {
		return nil, api.ErrPitch
	}
	var places []api.Place
	for i, c := range in.Courses {
		for fret := range c.Frets + 1 {
			if c.Pitch+rise(in.Steps, fret) == pitch {
				places = append(places, api.Place{Course: i + 1, Fret: fret})
			}
		}
	}
	return places, api.OK
}

// Compass returns the lowest and the highest pitch.
func Compass(in api.Instrument) (lowest, highest int, e api.Errno) {
	if e := Check(in); e != api.OK {
		return 0, 0, e
	}
	lowest = api.MaxPitch
	for _, c := range in.Courses {
		lowest = min(lowest, c.Pitch)
		highest = max(highest, c.Pitch+rise(in.Steps, c.Frets))
	}
	return lowest, highest, api.OK
}

// Rank returns the courses in descending order of their open pitches.
func Rank(in api.Instrument) ([]int, api.Errno) {
	if e := Check(in); e != api.OK {
		return nil, e
	}
	ranked := make([]int, len(in.Courses))
	for i := range ranked {
		ranked[i] = i + 1
	}
	slices.SortStableFunc(ranked, func(a, b int) int {
		return cmp.Compare(in.Courses[b-1].Pitch, in.Courses[a-1].Pitch)
	})
	return ranked, api.OK
}

// Reentrant returns the courses that are higher than the one before.
func Reentrant(in api.Instrument) ([]int, api.Errno) {
	if e := Check(in); e != api.OK {
		return nil, e
	}
	var higher []int
	for i := 1; i < len(in.Courses); i++ {
		if in.Courses[i].Pitch > in.Courses[i-1].Pitch {
			higher = append(higher, i+1)
		}
	}
	return higher, api.OK
}

// Same reports whether two instruments are equal.
func Same(a, b api.Instrument) bool {
	return slices.Equal(a.Courses, b.Courses) && slices.Equal(a.Steps, b.Steps)
}
