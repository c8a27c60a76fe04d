package instrument_test

import (
	"math"
	"math/rand/v2"
	"testing"

	"theorbo/api"
	"theorbo/instrument"
)

// hostile are arguments that no range allows, and the ends of common ranges.
var hostile = []int{math.MinInt, math.MinInt + 1, -1 << 62, -129, -128, -127, -1, 0, 1, 2, 3, 13, 14, 15, 18, 19, 127, 128, 1<<62 - 1, 1 << 62, math.MaxInt - 1, math.MaxInt}

func standard(t *testing.T, name string) api.Instrument {
	t.Helper()
	in, e := instrument.Standard(name)
	if e != api.OK {
		t.Fatalf("Standard(%q): %d", name, e)
	}
	return in
}

func steps(count int) []int {
	var l []int
	for i := range count {
		l = append(l, i+1)
	}
	return l
}

func courses(count, pitch int) []api.Course {
	var l []api.Course
	for range count {
		l = append(l, api.Course{Pitch: pitch})
	}
	return l
}

// broken are instruments that are not valid, each with the error that Check returns.
func broken() map[string]struct {
	in api.Instrument
	e  api.Errno
} {
	type row = struct {
		in api.Instrument
		e  api.Errno
	}
	return map[string]row{
		"many courses": {api.Instrument{Courses: courses(15, 60)}, api.ErrMany},
		"no courses":   {api.Instrument{Steps: steps(3)}, api.ErrInstrument},
		"frets":        {api.Instrument{Courses: []api.Course{{Pitch: 60, Frets: 2}}, Steps: steps(1)}, api.ErrFret},
		"pitch":        {api.Instrument{Courses: []api.Course{{Pitch: 128}}}, api.ErrPitch},
	}
}

// valid are the standard instruments and others of all shapes.
func valid(t *testing.T) []api.Instrument {
	t.Helper()
	var l []api.Instrument
	for _, name := range instrument.Names() {
		l = append(l, standard(t, name))
	}
	if len(l) != 9 {
		t.Fatalf("%d standard instruments", len(l))
	}
	l = append(l,
		api.Instrument{Courses: []api.Course{{}}},
		api.Instrument{Courses: []api.Course{{Pitch: 127}}, Steps: []int{127}},
		api.Instrument{Courses: []api.Course{{Frets: 1}}, Steps: []int{127}},
		api.Instrument{Courses: courses(14, 115), Steps: steps(18)},
		api.Instrument{Courses: []api.Course{{Pitch: 60, Frets: 3}, {Pitch: 50, Frets: 5, Octave: true}, {Pitch: 40}}, Steps: []int{1, 3, 4, 6, 9}},
	)
	r := rand.New(rand.NewPCG(1, 2))
	for range 60 {
		l = append(l, made(r))
	}
	for i, in := range l {
		if e := instrument.Check(in); e != api.OK {
			t.Fatalf("instrument %d, %v: %d", i, in, e)
		}
	}
	return l
}

func made(r *rand.Rand) api.Instrument {
	var in api.Instrument
	step := 0
	for range r.IntN(19) {
		step += 1 + r.IntN(5)
		in.Steps = append(in.Steps, step)
	}
	for range 1 + r.IntN(14) {
		c := api.Course{Frets: r.IntN(len(in.Steps) + 1), Octave: r.IntN(2) == 0}
		top := 127
		if c.Frets > 0 {
			top -= in.Steps[c.Frets-1]
		}
		if c.Octave {
			top -= 12
		}
		c.Pitch = r.IntN(top + 1)
		in.Courses = append(in.Courses, c)
	}
	return in
}

func copied(in api.Instrument) api.Instrument {
	return api.Instrument{Courses: append([]api.Course{}, in.Courses...), Steps: append([]int{}, in.Steps...)}
}

// equal compares without the functions of the package.
func equal(a, b api.Instrument) bool {
	if len(a.Courses) != len(b.Courses) || len(a.Steps) != len(b.Steps) {
		return false
	}
	for i := range a.Courses {
		if a.Courses[i] != b.Courses[i] {
			return false
		}
	}
	for i := range a.Steps {
		if a.Steps[i] != b.Steps[i] {
			return false
		}
	}
	return true
}

func isZero(in api.Instrument) bool {
	return len(in.Courses) == 0 && len(in.Steps) == 0
}

// apart reports a result that shares memory with the argument.
func apart(t *testing.T, call string, result, argument api.Instrument) {
	t.Helper()
	kept := copied(argument)
	for i := range result.Courses {
		result.Courses[i].Pitch += 1000
	}
	for i := range result.Steps {
		result.Steps[i] += 1000
	}
	if !equal(argument, kept) {
		t.Errorf("%s shares memory with its argument", call)
	}
}
