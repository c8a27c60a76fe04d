package instrument

import (
	"slices"

	"theorbo/api"
)

// Tune returns the instrument with one course tuned differently.
func Tune(in api.Instrument, course, by int) (api.Instrument, api.Errno) {
	if e := Check(in); e != api.OK {
		return api.Instrument{}, e
	}
	if !hasCourse(in, course) {
		return api.Instrument{}, api.ErrCourse
	}
	return retune(in, course, course, by)
}

// Transpose returns the instrument with all courses tuned differently.
func Transpose(in api.Instrument, by int) (api.Instrument, api.Errno) {
	if e := Check(in); e != api.OK {
		return api.Instrument{}, e
	}
	return retune(in, 1, len(in.Courses), by)
}

// retune tunes the courses from first to last of a valid instrument.
func retune(in api.Instrument, first, last, by int) (api.Instrument, api.Errno) {
	if by < -api.MaxPitch || by > api.MaxPitch {
		return api.Instrument{}, api.ErrArg
	}
	tuned := clone(in)
	for course := first; course <= last; course++ {
		tuned.Courses[course-1].Pitch += by
	}
	if e := Check(tuned); e != api.OK {
		return api.Instrument{}, e
	}
	return tuned, api.OK
}

func clone(in api.Instrument) api.Instrument {
	return api.Instrument{Courses: slices.Clone(in.Courses), Steps: slices.Clone(in.Steps)}
}

// Capo returns the instrument as it is with a capo.
func Capo(in api.Instrument, fret int) (api.Instrument, api.Errno) {
	if e := Check(in); e != api.OK {
		return api.Instrument{}, e
	}
	if fret < 0 || fret > len(in.Steps) {
		return api.Instrument{}, api.ErrFret
	}
	by := rise(in.Steps, fret)
	capped := api.Instrument{Courses: slices.Clone(in.Courses), Steps: slices.Clone(in.Steps[fret:])}
	for i := range capped.Steps {
		capped.Steps[i] -= by
	}
	for i, c := range capped.Courses {
		if c.Frets == 0 {
			continue
		}
		if c.Frets < fret {
			return api.Instrument{}, api.ErrFret
		}
		capped.Courses[i].Pitch += by
		capped.Courses[i].Frets -= fret
	}
	return capped, api.OK
}
