package notation_test

import (
	"slices"
	"testing"

	"theorbo/api"
	"theorbo/notation"
)

var systemNames = map[api.System]string{api.French: "french", api.Italian: "italian", api.Spanish: "spanish", api.German: "german"}

// P3.1
func TestSystemName(t *testing.T) {
	for sys, want := range systemNames {
		if s, e := notation.SystemName(sys); s != want || e != api.OK {
			t.Errorf("SystemName(%d) = %q, %d", sys, s, e)
		}
		if got, e := notation.ParseSystem(want); got != sys || e != api.OK {
			t.Errorf("ParseSystem(%q) = %d, %d", want, got, e)
		}
	}
	for _, sys := range noSystems() {
		if s, e := notation.SystemName(sys); s != "" || e != api.ErrSystem {
			t.Errorf("SystemName(%d) = %q, %d", sys, s, e)
		}
	}
	for _, s := range []string{"", "French", "french ", " french", "frenc", "frenchgerman", "1", "lute", "german\n", "\xff"} {
		if sys, e := notation.ParseSystem(s); sys != 0 || e != api.ErrForm {
			t.Errorf("ParseSystem(%q) = %d, %d", s, sys, e)
		}
	}
}

// P3.2
func TestLine(t *testing.T) {
	for name, want := range map[string]map[api.System][]int{
		"guitar4":   {api.French: {1, 2, 3, 4}, api.Italian: {4, 3, 2, 1}, api.German: {0, 0, 0, 0}},
		"guitar5":   {api.French: {1, 2, 3, 4, 5}, api.Italian: {5, 4, 3, 2, 1}, api.German: {0, 0, 0, 0, 0}},
		"lute6":     {api.French: {1, 2, 3, 4, 5, 6}, api.Italian: {6, 5, 4, 3, 2, 1}, api.German: {0, 0, 0, 0, 0, 0}},
		"lute7":     {api.French: {1, 2, 3, 4, 5, 6, 0}, api.Italian: {6, 5, 4, 3, 2, 1, 0}, api.German: {0, 0, 0, 0, 0, 0, 0}},
		"theorbo14": {api.French: {1, 2, 3, 4, 5, 6, 0, 0, 0, 0, 0, 0, 0, 0}, api.Italian: {6, 5, 4, 3, 2, 1, 0, 0, 0, 0, 0, 0, 0, 0}, api.German: make([]int, 14)},
	} {
		want[api.Spanish] = want[api.French]
		for _, sys := range systems {
			var got []int
			for course := 1; course <= len(want[sys]); course++ {
				line, e := notation.Line(sys, standard(name), course)
				if e != api.OK {
					t.Errorf("Line(%d, %s, %d): %d", sys, name, course, e)
				}
				got = append(got, line)
			}
			if !slices.Equal(got, want[sys]) {
				t.Errorf("lines of %s in system %d: %v, want %v", name, sys, got, want[sys])
			}
		}
	}
	one := api.Instrument{Courses: []api.Course{{Pitch: 60}}}
	for sys, want := range map[api.System]int{api.French: 1, api.Italian: 1, api.Spanish: 1, api.German: 0} {
		if line, e := notation.Line(sys, one, 1); line != want || e != api.OK {
			t.Errorf("Line(%d) of one course = %d, %d", sys, line, e)
		}
	}
}

// P3.2: the errors and their order.
func TestLineErrors(t *testing.T) {
	for _, sys := range systems {
		for _, course := range hostile {
			line, e := notation.Line(sys, standard("lute7"), course)
			if course >= 1 && course <= 7 {
				if e != api.OK {
					t.Errorf("Line(%d, lute7, %d): %d", sys, course, e)
				}
			} else if line != 0 || e != api.ErrCourse {
				t.Errorf("Line(%d, lute7, %d) = %d, %d", sys, course, line, e)
			}
		}
		for name, b := range map[string]struct {
			in api.Instrument
			e  api.Errno
		}{
			"nothing":      {api.Instrument{}, api.ErrInstrument},
			"many courses": {api.Instrument{Courses: make([]api.Course, 15)}, api.ErrMany},
			"frets":        {api.Instrument{Courses: []api.Course{{Frets: 1}}}, api.ErrFret},
			"pitch":        {api.Instrument{Courses: []api.Course{{Pitch: 128}}}, api.ErrPitch},
		} {
			for _, course := range []int{0, 1, 15} {
				if line, e := notation.Line(sys, b.in, course); line != 0 || e != b.e {
					t.Errorf("Line(%d, %s, %d) = %d, %d, want %d", sys, name, course, line, e, b.e)
				}
			}
		}
	}
	for _, sys := range noSystems() {
		for _, in := range []api.Instrument{standard("lute6"), {}} {
			for _, course := range []int{0, 1} {
				if line, e := notation.Line(sys, in, course); line != 0 || e != api.ErrSystem {
					t.Errorf("Line(%d, %v, %d) = %d, %d", sys, in, course, line, e)
				}
			}
		}
	}
}
