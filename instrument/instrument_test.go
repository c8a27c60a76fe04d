package instrument_test

import (
	"math"
	"slices"
	"testing"

	"theorbo/api"
	"theorbo/instrument"
)

// P1.5: what is valid, up to every end of a range.
func TestCheckValid(t *testing.T) {
	for _, in := range []api.Instrument{
		{Courses: []api.Course{{}}},
		{Courses: []api.Course{{Pitch: 127}}},
		{Courses: courses(14, 60), Steps: steps(18)},
		{Courses: []api.Course{{Pitch: 60}}, Steps: []int{1, 127}},
		{Courses: []api.Course{{Pitch: 60}}, Steps: []int{127}},
		{Courses: []api.Course{{Pitch: 109, Frets: 18}}, Steps: steps(18)},
		{Courses: []api.Course{{Pitch: 97, Frets: 18, Octave: true}}, Steps: steps(18)},
		{Courses: []api.Course{{Pitch: 115, Octave: true}}, Steps: steps(18)},
		{Courses: []api.Course{{Pitch: 125, Frets: 2}}, Steps: []int{1, 2, 3}},
		{Courses: []api.Course{{Pitch: 0, Frets: 1}}, Steps: []int{127}},
		{Courses: []api.Course{{Pitch: 127}, {Pitch: 0}, {Pitch: 127}}, Steps: []int{5, 6, 80}},
	} {
		if e := instrument.Check(in); e != api.OK {
			t.Errorf("Check(%v): %d", in, e)
		}
	}
}

// P1.5: every error.
func TestCheckErrors(t *testing.T) {
	one := courses(1, 60)
	for _, c := range []struct {
		in   api.Instrument
		want api.Errno
	}{
		{api.Instrument{Courses: courses(15, 60)}, api.ErrMany},
		{api.Instrument{Courses: one, Steps: steps(19)}, api.ErrMany},
		{api.Instrument{}, api.ErrInstrument},
		{api.Instrument{Courses: []api.Course{}, Steps: steps(2)}, api.ErrInstrument},
		{api.Instrument{Courses: one, Steps: []int{0}}, api.ErrInstrument},
		{api.Instrument{Courses: one, Steps: []int{0, 1}}, api.ErrInstrument},
		{api.Instrument{Courses: one, Steps: []int{-1}}, api.ErrInstrument},
		{api.Instrument{Courses: one, Steps: []int{128}}, api.ErrInstrument},
		{api.Instrument{Courses: one, Steps: []int{1, 128}}, api.ErrInstrument},
		{api.Instrument{Courses: one, Steps: []int{1, 1}}, api.ErrInstrument},
		{api.Instrument{Courses: one, Steps: []int{3, 2}}, api.ErrInstrument},
		{api.Instrument{Courses: one, Steps: []int{1, 2, 3, 3}}, api.ErrInstrument},
		{api.Instrument{Courses: one, Steps: []int{1, 5, 3, 4}}, api.ErrInstrument},
		{api.Instrument{Courses: one, Steps: []int{math.MinInt}}, api.ErrInstrument},
		{api.Instrument{Courses: one, Steps: []int{math.MaxInt}}, api.ErrInstrument},
		{api.Instrument{Courses: []api.Course{{Pitch: 60, Frets: -1}}, Steps: steps(2)}, api.ErrFret},
		{api.Instrument{Courses: []api.Course{{Pitch: 60, Frets: 3}}, Steps: steps(2)}, api.ErrFret},
		{api.Instrument{Courses: []api.Course{{Pitch: 60, Frets: 1}}}, api.ErrFret},
		{api.Instrument{Courses: []api.Course{{Pitch: 60, Frets: math.MaxInt}}, Steps: steps(2)}, api.ErrFret},
		{api.Instrument{Courses: []api.Course{{Pitch: 60, Frets: math.MinInt}}, Steps: steps(2)}, api.ErrFret},
		{api.Instrument{Courses: []api.Course{{Pitch: -1}}}, api.ErrPitch},
		{api.Instrument{Courses: []api.Course{{Pitch: -1, Frets: 2}}, Steps: steps(2)}, api.ErrPitch},
		{api.Instrument{Courses: []api.Course{{Pitch: -1, Octave: true}}}, api.ErrPitch},
		{api.Instrument{Courses: []api.Course{{Pitch: 128}}}, api.ErrPitch},
		{api.Instrument{Courses: []api.Course{{Pitch: math.MinInt, Octave: true}}}, api.ErrPitch},
		{api.Instrument{Courses: []api.Course{{Pitch: math.MaxInt, Frets: 2, Octave: true}}, Steps: steps(2)}, api.ErrPitch},
		{api.Instrument{Courses: []api.Course{{Pitch: 126, Frets: 2}}, Steps: steps(2)}, api.ErrPitch},
		{api.Instrument{Courses: []api.Course{{Pitch: 110, Frets: 1}}, Steps: []int{18}}, api.ErrPitch},
		{api.Instrument{Courses: []api.Course{{Pitch: 116, Octave: true}}}, api.ErrPitch},
		{api.Instrument{Courses: []api.Course{{Pitch: 114, Frets: 2, Octave: true}}, Steps: steps(2)}, api.ErrPitch},
		{api.Instrument{Courses: []api.Course{{Pitch: 60}, {Pitch: 60}, {Pitch: 128}}}, api.ErrPitch},
		{api.Instrument{Courses: []api.Course{{Pitch: 60}, {Pitch: 60, Frets: 1}}}, api.ErrFret},
	} {
		if e := instrument.Check(c.in); e != c.want {
			t.Errorf("Check(%v) = %d, want %d", c.in, e, c.want)
		}
	}
}

// P1.5: of several errors the first one.
func TestCheckOrder(t *testing.T) {
	for _, c := range []struct {
		in   api.Instrument
		want api.Errno
	}{
		{api.Instrument{Courses: courses(15, -1), Steps: []int{2, 1}}, api.ErrMany},
		{api.Instrument{Steps: steps(19)}, api.ErrMany},
		{api.Instrument{Courses: courses(1, 60), Steps: make([]int, 19)}, api.ErrMany},
		{api.Instrument{Courses: []api.Course{{Pitch: -1, Frets: 9}}, Steps: []int{2, 2}}, api.ErrInstrument},
		{api.Instrument{Courses: []api.Course{{Pitch: -1}}, Steps: []int{0}}, api.ErrInstrument},
		{api.Instrument{Courses: []api.Course{{Pitch: 200, Frets: 1}}}, api.ErrFret},
		{api.Instrument{Courses: []api.Course{{Pitch: -1}, {Pitch: 60, Frets: 1}}}, api.ErrPitch},
		{api.Instrument{Courses: []api.Course{{Pitch: 60, Frets: 1}, {Pitch: -1}}}, api.ErrFret},
		{api.Instrument{Courses: []api.Course{{Pitch: 127, Frets: 1}, {Pitch: 60, Frets: 2}}, Steps: steps(1)}, api.ErrPitch},
	} {
		if e := instrument.Check(c.in); e != c.want {
			t.Errorf("Check(%v) = %d, want %d", c.in, e, c.want)
		}
	}
}

// P1.6
func TestAt(t *testing.T) {
	for _, in := range valid(t) {
		for i, c := range in.Courses {
			for fret := -1; fret <= len(in.Steps)+1; fret++ {
				p, e := instrument.At(in, api.Place{Course: i + 1, Fret: fret})
				want, fault := c.Pitch, api.OK
				if fret < 0 || fret > c.Frets {
					want, fault = 0, api.ErrFret
				} else if fret > 0 {
					want += in.Steps[fret-1]
				}
				if p != want || e != fault {
					t.Fatalf("At(%v, %d, %d) = %d, %d, want %d, %d", in, i+1, fret, p, e, want, fault)
				}
			}
		}
	}
	lute, cittern := standard(t, "lute6"), standard(t, "cittern4")
	if p, e := instrument.At(lute, api.Place{Course: 1, Fret: 2}); p != 69 || e != api.OK {
		t.Errorf("At(lute6, 1, 2) = %d, %d", p, e)
	}
	if p, e := instrument.At(lute, api.Place{Course: 6}); p != 43 || e != api.OK {
		t.Errorf("At(lute6, 6, 0) = %d, %d: the octave string is not considered", p, e)
	}
	if p, e := instrument.At(cittern, api.Place{Course: 3, Fret: 9}); p != 67 || e != api.OK {
		t.Errorf("At(cittern4, 3, 9) = %d, %d: its frets are no semitones", p, e)
	}
}

// P1.6: the errors and their order.
func TestAtErrors(t *testing.T) {
	in := standard(t, "theorbo14")
	for _, c := range []struct {
		course, fret int
		want         api.Errno
	}{
		{0, 0, api.ErrCourse}, {-1, 0, api.ErrCourse}, {15, 0, api.ErrCourse}, {0, -1, api.ErrCourse}, {15, 9, api.ErrCourse},
		{1, -1, api.ErrFret}, {1, 9, api.ErrFret}, {7, 1, api.ErrFret}, {14, 1, api.ErrFret}, {14, 0, api.OK}, {6, 8, api.OK},
		{math.MinInt, 0, api.ErrCourse}, {math.MaxInt, 0, api.ErrCourse}, {1, math.MinInt, api.ErrFret}, {1, math.MaxInt, api.ErrFret},
	} {
		p, e := instrument.At(in, api.Place{Course: c.course, Fret: c.fret})
		if e != c.want || e != api.OK && p != 0 {
			t.Errorf("At(%d, %d) = %d, %d, want %d", c.course, c.fret, p, e, c.want)
		}
	}
	for name, b := range broken() {
		for _, pl := range []api.Place{{Course: 1}, {Course: 0, Fret: -1}, {Course: 1, Fret: 1}} {
			if p, e := instrument.At(b.in, pl); p != 0 || e != b.e {
				t.Errorf("At(%s, %v) = %d, %d, want %d", name, pl, p, e, b.e)
			}
		}
	}
}

// P1.7
func TestPlaces(t *testing.T) {
	for _, in := range valid(t) {
		for pitch := range 128 {
			var want []api.Place
			for i, c := range in.Courses {
				for fret := 0; fret <= c.Frets; fret++ {
					if p, _ := instrument.At(in, api.Place{Course: i + 1, Fret: fret}); p == pitch {
						want = append(want, api.Place{Course: i + 1, Fret: fret})
					}
				}
			}
			if l, e := instrument.Places(in, pitch); !slices.Equal(l, want) || e != api.OK {
				t.Fatalf("Places(%v, %d) = %v, %d, want %v", in, pitch, l, e, want)
			}
		}
	}
	lute := standard(t, "lute6")
	for pitch, want := range map[int][]api.Place{
		62: {{Course: 2}, {Course: 3, Fret: 5}},
		75: {{Course: 1, Fret: 8}},
		43: {{Course: 6}},
		76: nil,
		42: nil,
		0:  nil,
	} {
		if l, e := instrument.Places(lute, pitch); !slices.Equal(l, want) || e != api.OK {
			t.Errorf("Places(lute6, %d) = %v, %d, want %v", pitch, l, e, want)
		}
	}
	if l, e := instrument.Places(standard(t, "theorbo14"), 43); !slices.Equal(l, []api.Place{{Course: 7}}) || e != api.OK {
		t.Errorf("Places(theorbo14, 43) = %v, %d: a diapason is a place, too", l, e)
	}
}

// P1.7: the errors and their order.
func TestPlacesErrors(t *testing.T) {
	in := standard(t, "lute6")
	for _, pitch := range []int{-1, 128, math.MinInt, math.MaxInt} {
		if l, e := instrument.Places(in, pitch); len(l) != 0 || e != api.ErrPitch {
			t.Errorf("Places(%d) = %v, %d", pitch, l, e)
		}
		for name, b := range broken() {
			if l, e := instrument.Places(b.in, pitch); len(l) != 0 || e != b.e {
				t.Errorf("Places(%s, %d) = %v, %d, want %d", name, pitch, l, e, b.e)
			}
		}
	}
}

// P1.8
func TestCompass(t *testing.T) {
	for _, in := range valid(t) {
		low, high := 1000, -1
		for i, c := range in.Courses {
			for fret := 0; fret <= c.Frets; fret++ {
				p, _ := instrument.At(in, api.Place{Course: i + 1, Fret: fret})
				low, high = min(low, p), max(high, p)
			}
		}
		if a, b, e := instrument.Compass(in); a != low || b != high || e != api.OK {
			t.Errorf("Compass(%v) = %d, %d, %d, want %d, %d", in, a, b, e, low, high)
		}
	}
	for name, want := range map[string][2]int{"lute6": {43, 75}, "theorbo14": {31, 67}, "guitar5": {55, 72}, "cittern4": {55, 76}, "vihuela6": {43, 77}} {
		if a, b, e := instrument.Compass(standard(t, name)); a != want[0] || b != want[1] || e != api.OK {
			t.Errorf("Compass(%s) = %d, %d, %d, want %v", name, a, b, e, want)
		}
	}
	highDiapason := api.Instrument{Courses: []api.Course{{Pitch: 50, Frets: 2}, {Pitch: 90, Octave: true}}, Steps: steps(2)}
	if a, b, e := instrument.Compass(highDiapason); a != 50 || b != 90 || e != api.OK {
		t.Errorf("Compass = %d, %d, %d", a, b, e)
	}
	for name, b := range broken() {
		if low, high, e := instrument.Compass(b.in); low != 0 || high != 0 || e != b.e {
			t.Errorf("Compass(%s) = %d, %d, %d, want %d", name, low, high, e, b.e)
		}
	}
}

func tuned(pitches ...int) api.Instrument {
	var in api.Instrument
	for _, p := range pitches {
		in.Courses = append(in.Courses, api.Course{Pitch: p})
	}
	return in
}

// P1.9
func TestRank(t *testing.T) {
	for _, c := range []struct {
		in   api.Instrument
		want []int
	}{
		{standard(t, "guitar5"), []int{1, 4, 2, 5, 3}},
		{standard(t, "cittern4"), []int{1, 2, 4, 3}},
		{standard(t, "lute7"), []int{1, 2, 3, 4, 5, 6, 7}},
		{tuned(60), []int{1}},
		{tuned(60, 62, 60, 62), []int{2, 4, 1, 3}},
		{tuned(1, 2, 3, 4, 5, 6, 7, 8, 9, 10, 11, 12, 13, 14), []int{14, 13, 12, 11, 10, 9, 8, 7, 6, 5, 4, 3, 2, 1}},
		{tuned(5, 5, 5, 5, 5, 5, 5, 5, 5, 5, 5, 5, 5, 5), []int{1, 2, 3, 4, 5, 6, 7, 8, 9, 10, 11, 12, 13, 14}},
		{tuned(5, 9, 5, 9, 5, 9, 5, 9, 5, 9, 5, 9, 5, 9), []int{2, 4, 6, 8, 10, 12, 14, 1, 3, 5, 7, 9, 11, 13}},
	} {
		kept := copied(c.in)
		if l, e := instrument.Rank(c.in); !slices.Equal(l, c.want) || e != api.OK {
			t.Errorf("Rank(%v) = %v, %d, want %v", c.in, l, e, c.want)
		}
		if !equal(c.in, kept) {
			t.Errorf("Rank has changed its argument %v", kept)
		}
	}
	for name, b := range broken() {
		if l, e := instrument.Rank(b.in); len(l) != 0 || e != b.e {
			t.Errorf("Rank(%s) = %v, %d, want %d", name, l, e, b.e)
		}
	}
}

// P1.10
func TestReentrant(t *testing.T) {
	for _, c := range []struct {
		in   api.Instrument
		want []int
	}{
		{standard(t, "guitar5"), []int{4}},
		{standard(t, "cittern4"), []int{4}},
		{standard(t, "lute6"), nil},
		{standard(t, "theorbo14"), []int{3}},
		{tuned(60), nil},
		{tuned(60, 60), nil},
		{tuned(60, 61, 62, 50, 55), []int{2, 3, 5}},
		{tuned(60, 50, 55, 58), []int{3, 4}},
	} {
		if l, e := instrument.Reentrant(c.in); !slices.Equal(l, c.want) || e != api.OK {
			t.Errorf("Reentrant(%v) = %v, %d, want %v", c.in, l, e, c.want)
		}
	}
	for name, b := range broken() {
		if l, e := instrument.Reentrant(b.in); len(l) != 0 || e != b.e {
			t.Errorf("Reentrant(%s) = %v, %d, want %d", name, l, e, b.e)
		}
	}
}

// P1.14
func TestSame(t *testing.T) {
	base := api.Instrument{Courses: []api.Course{{Pitch: 60, Frets: 2}, {Pitch: 50, Octave: true}}, Steps: []int{1, 2}}
	if !instrument.Same(base, copied(base)) {
		t.Error("an equal copy is not Same")
	}
	for name, change := range map[string]func(in *api.Instrument){
		"pitch":        func(in *api.Instrument) { in.Courses[0].Pitch++ },
		"frets":        func(in *api.Instrument) { in.Courses[0].Frets-- },
		"octave":       func(in *api.Instrument) { in.Courses[1].Octave = false },
		"last course":  func(in *api.Instrument) { in.Courses[1].Pitch = 51 },
		"less courses": func(in *api.Instrument) { in.Courses = in.Courses[:1] },
		"more courses": func(in *api.Instrument) { in.Courses = append(in.Courses, api.Course{}) },
		"order":        func(in *api.Instrument) { in.Courses[0], in.Courses[1] = in.Courses[1], in.Courses[0] },
		"step":         func(in *api.Instrument) { in.Steps[1] = 3 },
		"first step":   func(in *api.Instrument) { in.Steps[0] = 0 },
		"less steps":   func(in *api.Instrument) { in.Steps = in.Steps[:1] },
		"more steps":   func(in *api.Instrument) { in.Steps = append(in.Steps, 3) },
		"no courses":   func(in *api.Instrument) { in.Courses = nil },
		"no steps":     func(in *api.Instrument) { in.Steps = nil },
	} {
		other := copied(base)
		change(&other)
		if instrument.Same(base, other) || instrument.Same(other, base) {
			t.Errorf("Same although changed: %s", name)
		}
	}
	if !instrument.Same(api.Instrument{}, api.Instrument{Courses: []api.Course{}, Steps: []int{}}) {
		t.Error("nil and empty lists are not Same")
	}
	if !instrument.Same(api.Instrument{Courses: courses(1, 60)}, api.Instrument{Courses: courses(1, 60), Steps: []int{}}) {
		t.Error("nil and empty steps are not Same")
	}
	for name, b := range broken() {
		if !instrument.Same(b.in, copied(b.in)) {
			t.Errorf("%s: a copy is not Same", name)
		}
	}
	long := api.Instrument{Courses: courses(40, -5), Steps: make([]int, 40)}
	other := copied(long)
	other.Steps[39] = 1
	if !instrument.Same(long, copied(long)) || instrument.Same(long, other) {
		t.Error("what is not valid is compared as it stands")
	}
}

// P0.1
func TestEveryFunctionEnds(t *testing.T) {
	var instruments []api.Instrument
	for _, a := range hostile {
		for _, b := range hostile {
			instruments = append(instruments,
				api.Instrument{Courses: []api.Course{{Pitch: a, Frets: b, Octave: true}}, Steps: []int{1, a, b}},
				api.Instrument{Courses: []api.Course{{Pitch: a, Frets: b}, {Pitch: b, Frets: a}}, Steps: steps(3)},
			)
		}
	}
	for _, b := range broken() {
		instruments = append(instruments, b.in)
	}
	instruments = append(instruments, api.Instrument{}, standard(t, "lute6"), standard(t, "theorbo14"))
	for _, in := range instruments {
		valid := instrument.Check(in) == api.OK
		for _, n := range hostile {
			instrument.At(in, api.Place{Course: n, Fret: n})
			instrument.At(in, api.Place{Course: 1, Fret: n})
			instrument.Places(in, n)
			instrument.Tune(in, n, n)
			instrument.Tune(in, 1, n)
			instrument.Transpose(in, n)
			instrument.Capo(in, n)
		}
		instrument.Compass(in)
		instrument.Rank(in)
		instrument.Reentrant(in)
		instrument.Same(in, in)
		if _, e := instrument.Format(in); valid != (e == api.OK) {
			t.Errorf("Format(%v): %d", in, e)
		}
	}
}
