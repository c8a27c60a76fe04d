package instrument_test

import (
	"math"
	"testing"

	"theorbo/api"
	"theorbo/instrument"
)

// P1.11
func TestTune(t *testing.T) {
	for _, in := range valid(t) {
		for course := 1; course <= len(in.Courses); course++ {
			for by := -130; by <= 130; by++ {
				tuneOnce(t, in, course, by)
			}
		}
	}
	lute := standard(t, "lute6")
	low, e := instrument.Tune(lute, 6, -2)
	if e != api.OK || low.Courses[5] != (api.Course{Pitch: 41, Frets: 8, Octave: true}) || lute.Courses[5].Pitch != 43 {
		t.Errorf("Tune(lute6, 6, -2) = %v, %d", low, e)
	}
}

func tuneOnce(t *testing.T, in api.Instrument, course, by int) {
	t.Helper()
	want, fault := copied(in), api.OK
	want.Courses[course-1].Pitch += by
	if by < -127 || by > 127 {
		fault = api.ErrArg
	} else {
		fault = instrument.Check(want)
	}
	kept := copied(in)
	got, e := instrument.Tune(in, course, by)
	if e != fault || e == api.OK && !equal(got, want) || e != api.OK && !isZero(got) {
		t.Fatalf("Tune(%v, %d, %d) = %v, %d, want %d", in, course, by, got, e, fault)
	}
	if !equal(in, kept) {
		t.Fatalf("Tune(%v, %d, %d) has changed its argument", kept, course, by)
	}
}

// P1.11: the errors and their order.
func TestTuneErrors(t *testing.T) {
	in := standard(t, "lute6")
	for _, c := range []struct {
		course, by int
		want       api.Errno
	}{
		{0, 0, api.ErrCourse}, {7, 0, api.ErrCourse}, {-1, 0, api.ErrCourse}, {0, 128, api.ErrCourse}, {7, math.MaxInt, api.ErrCourse},
		{math.MinInt, 0, api.ErrCourse}, {math.MaxInt, 0, api.ErrCourse},
		{1, 128, api.ErrArg}, {1, -128, api.ErrArg}, {1, math.MinInt, api.ErrArg}, {1, math.MaxInt, api.ErrArg},
		{1, 127, api.ErrPitch}, {1, -127, api.ErrPitch}, {1, 60, api.ErrPitch},
		{1, 53, api.ErrPitch}, {1, 52, api.OK}, {1, -68, api.ErrPitch}, {1, -67, api.OK},
		{6, 65, api.ErrPitch}, {6, 64, api.OK},
	} {
		got, e := instrument.Tune(in, c.course, c.by)
		if e != c.want || e != api.OK && !isZero(got) {
			t.Errorf("Tune(lute6, %d, %d) = %v, %d, want %d", c.course, c.by, got, e, c.want)
		}
	}
	for name, b := range broken() {
		for _, course := range []int{0, 1, 16} {
			if got, e := instrument.Tune(b.in, course, 1000); !isZero(got) || e != b.e {
				t.Errorf("Tune(%s, %d) = %v, %d, want %d", name, course, got, e, b.e)
			}
		}
	}
	far := api.Instrument{Courses: []api.Course{{}, {Pitch: 127}}}
	if got, e := instrument.Tune(far, 1, 127); e != api.OK || got.Courses[0].Pitch != 127 {
		t.Errorf("Tune by 127 = %v, %d", got, e)
	}
	if got, e := instrument.Tune(far, 2, -127); e != api.OK || got.Courses[1].Pitch != 0 {
		t.Errorf("Tune by -127 = %v, %d", got, e)
	}
}

// P1.12
func TestTranspose(t *testing.T) {
	for _, in := range valid(t) {
		for by := -130; by <= 130; by++ {
			want, fault := copied(in), api.OK
			for i := range want.Courses {
				want.Courses[i].Pitch += by
			}
			if by < -127 || by > 127 {
				fault = api.ErrArg
			} else {
				fault = instrument.Check(want)
			}
			kept := copied(in)
			got, e := instrument.Transpose(in, by)
			if e != fault || e == api.OK && !equal(got, want) || e != api.OK && !isZero(got) {
				t.Fatalf("Transpose(%v, %d) = %v, %d, want %d", in, by, got, e, fault)
			}
			if !equal(in, kept) {
				t.Fatalf("Transpose(%v, %d) has changed its argument", kept, by)
			}
		}
	}
}

// P1.12: the errors and their order.
func TestTransposeErrors(t *testing.T) {
	in := standard(t, "lute6")
	for by, want := range map[int]api.Errno{
		math.MinInt: api.ErrArg, -128: api.ErrArg, 128: api.ErrArg, math.MaxInt: api.ErrArg,
		-127: api.ErrPitch, 127: api.ErrPitch, -44: api.ErrPitch, -43: api.OK, 0: api.OK, 52: api.OK, 53: api.ErrPitch,
	} {
		got, e := instrument.Transpose(in, by)
		if e != want || e != api.OK && !isZero(got) {
			t.Errorf("Transpose(lute6, %d) = %v, %d, want %d", by, got, e, want)
		}
	}
	for name, b := range broken() {
		for _, by := range []int{0, 128, math.MinInt} {
			if got, e := instrument.Transpose(b.in, by); !isZero(got) || e != b.e {
				t.Errorf("Transpose(%s, %d) = %v, %d, want %d", name, by, got, e, b.e)
			}
		}
	}
	if got, e := instrument.Transpose(tuned(0, 0), 127); e != api.OK || !equal(got, tuned(127, 127)) {
		t.Errorf("Transpose by 127 = %v, %d", got, e)
	}
	if got, e := instrument.Transpose(tuned(127, 127), -127); e != api.OK || !equal(got, tuned(0, 0)) {
		t.Errorf("Transpose by -127 = %v, %d", got, e)
	}
}

// P1.13
func TestCapo(t *testing.T) {
	uneven := api.Instrument{
		Courses: []api.Course{{Pitch: 60, Frets: 5, Octave: true}, {Pitch: 50, Frets: 3}, {Pitch: 40, Octave: true}},
		Steps:   []int{1, 3, 4, 6, 9},
	}
	for _, c := range []struct {
		fret int
		want api.Instrument
	}{
		{0, uneven},
		{1, api.Instrument{Courses: []api.Course{{Pitch: 61, Frets: 4, Octave: true}, {Pitch: 51, Frets: 2}, {Pitch: 40, Octave: true}}, Steps: []int{2, 3, 5, 8}}},
		{2, api.Instrument{Courses: []api.Course{{Pitch: 63, Frets: 3, Octave: true}, {Pitch: 53, Frets: 1}, {Pitch: 40, Octave: true}}, Steps: []int{1, 3, 6}}},
		{3, api.Instrument{Courses: []api.Course{{Pitch: 64, Frets: 2, Octave: true}, {Pitch: 54}, {Pitch: 40, Octave: true}}, Steps: []int{2, 5}}},
	} {
		kept := copied(uneven)
		if got, e := instrument.Capo(uneven, c.fret); e != api.OK || !equal(got, c.want) {
			t.Errorf("Capo(%v, %d) = %v, %d, want %v", uneven, c.fret, got, e, c.want)
		}
		if !equal(uneven, kept) {
			t.Fatalf("Capo has changed its argument %v", kept)
		}
	}
	got, e := instrument.Capo(standard(t, "lute6"), 2)
	if e != api.OK || got.Courses[0] != (api.Course{Pitch: 69, Frets: 6}) || len(got.Steps) != 6 || got.Steps[0] != 1 || got.Steps[5] != 6 {
		t.Errorf("Capo(lute6, 2) = %v, %d", got, e)
	}
	got, e = instrument.Capo(standard(t, "lute6"), 8)
	if e != api.OK || got.Courses[0] != (api.Course{Pitch: 75}) || got.Courses[5] != (api.Course{Pitch: 51, Octave: true}) || len(got.Steps) != 0 {
		t.Errorf("Capo(lute6, 8) = %v, %d", got, e)
	}
	diapasons := api.Instrument{Courses: tuned(127, 0).Courses, Steps: steps(3)}
	if got, e := instrument.Capo(diapasons, 3); e != api.OK || !equal(got, tuned(127, 0)) {
		t.Errorf("Capo(%v, 3) = %v, %d", diapasons, got, e)
	}
}

// P1.13: the errors and their order.
func TestCapoErrors(t *testing.T) {
	uneven := api.Instrument{Courses: []api.Course{{Pitch: 60, Frets: 5}, {Pitch: 50, Frets: 3}, {Pitch: 40}}, Steps: []int{1, 3, 4, 6, 9}}
	for fret, want := range map[int]api.Errno{
		math.MinInt: api.ErrFret, -1: api.ErrFret, 0: api.OK, 3: api.OK, 4: api.ErrFret, 5: api.ErrFret, 6: api.ErrFret, math.MaxInt: api.ErrFret,
	} {
		got, e := instrument.Capo(uneven, fret)
		if e != want || e != api.OK && !isZero(got) {
			t.Errorf("Capo(%v, %d) = %v, %d, want %d", uneven, fret, got, e, want)
		}
	}
	if got, e := instrument.Capo(standard(t, "lute6"), 9); !isZero(got) || e != api.ErrFret {
		t.Errorf("Capo(lute6, 9) = %v, %d", got, e)
	}
	if got, e := instrument.Capo(tuned(60), 1); !isZero(got) || e != api.ErrFret {
		t.Errorf("Capo without steps = %v, %d", got, e)
	}
	for name, b := range broken() {
		for _, fret := range []int{-1, 0, 1, 99} {
			if got, e := instrument.Capo(b.in, fret); !isZero(got) || e != b.e {
				t.Errorf("Capo(%s, %d) = %v, %d, want %d", name, fret, got, e, b.e)
			}
		}
	}
}

// P1.19: the places behind a capo.
func TestCapoPlaces(t *testing.T) {
	for _, in := range valid(t) {
		for k := 0; k <= len(in.Steps); k++ {
			c, e := instrument.Capo(in, k)
			if e != api.OK {
				continue
			}
			if e := instrument.Check(c); e != api.OK {
				t.Fatalf("Check(Capo(%v, %d)): %d", in, k, e)
			}
			for i := range in.Courses {
				if in.Courses[i].Frets == 0 {
					if c.Courses[i] != in.Courses[i] {
						t.Fatalf("Capo(%v, %d) changes the diapason %d", in, k, i+1)
					}
					continue
				}
				for fret := 0; fret <= c.Courses[i].Frets; fret++ {
					p, e := instrument.At(c, api.Place{Course: i + 1, Fret: fret})
					q, f := instrument.At(in, api.Place{Course: i + 1, Fret: fret + k})
					if p != q || e != api.OK || f != api.OK {
						t.Fatalf("%v, capo %d, course %d, fret %d: %d, %d and %d, %d", in, k, i+1, fret, p, e, q, f)
					}
				}
			}
		}
	}
}

// P1.19: a capo behind a capo.
func TestCapoTwice(t *testing.T) {
	tried := 0
	for _, in := range valid(t) {
		for k := 0; k <= len(in.Steps); k++ {
			c, e := instrument.Capo(in, k)
			if e != api.OK || !behind(in, k) {
				continue
			}
			for j := 0; j <= len(in.Steps)+2; j++ {
				tried++
				a, e := instrument.Capo(c, j)
				b, f := instrument.Capo(in, k+j)
				if e != f || !instrument.Same(a, b) {
					t.Fatalf("%v: capo %d behind %d is %v, %d, not %v, %d", in, j, k, a, e, b, f)
				}
			}
		}
	}
	if tried < 500 {
		t.Errorf("only %d capos tried", tried)
	}
}

// behind reports whether every course has no frets or more than k.
func behind(in api.Instrument, k int) bool {
	for _, c := range in.Courses {
		if c.Frets > 0 && c.Frets <= k {
			return false
		}
	}
	return true
}

// P1.20
func TestTuneBack(t *testing.T) {
	for _, in := range valid(t) {
		for course := 1; course <= len(in.Courses); course++ {
			for _, n := range []int{-127, -40, -12, -1, 0, 1, 2, 12, 40, 127} {
				up, e := instrument.Tune(in, course, n)
				if e != api.OK {
					continue
				}
				if back, e := instrument.Tune(up, course, -n); e != api.OK || !instrument.Same(back, in) {
					t.Fatalf("%v: course %d by %d and back is %v, %d", in, course, n, back, e)
				}
			}
		}
	}
}

// P1.20
func TestTransposeIsTune(t *testing.T) {
	tried := 0
	for _, in := range valid(t) {
		for n := -20; n <= 20; n++ {
			all, ok := in, true
			for course := 1; course <= len(in.Courses) && ok; course++ {
				next, e := instrument.Tune(all, course, n)
				all, ok = next, e == api.OK
			}
			if !ok {
				continue
			}
			tried++
			if got, e := instrument.Transpose(in, n); e != api.OK || !instrument.Same(got, all) {
				t.Fatalf("Transpose(%v, %d) = %v, %d, want %v", in, n, got, e, all)
			}
		}
	}
	if tried < 300 {
		t.Errorf("only %d transpositions tried", tried)
	}
}

// R4: a result shares no memory with the argument, not even where nothing changes.
func TestTuningsAreNewMemory(t *testing.T) {
	in := standard(t, "lute6")
	for call, f := range map[string]func() (api.Instrument, api.Errno){
		"Tune":           func() (api.Instrument, api.Errno) { return instrument.Tune(in, 2, -1) },
		"Tune by 0":      func() (api.Instrument, api.Errno) { return instrument.Tune(in, 2, 0) },
		"Transpose":      func() (api.Instrument, api.Errno) { return instrument.Transpose(in, 1) },
		"Transpose by 0": func() (api.Instrument, api.Errno) { return instrument.Transpose(in, 0) },
		"Capo":           func() (api.Instrument, api.Errno) { return instrument.Capo(in, 3) },
		"Capo 0":         func() (api.Instrument, api.Errno) { return instrument.Capo(in, 0) },
	} {
		got, e := f()
		if e != api.OK {
			t.Errorf("%s: %d", call, e)
		}
		apart(t, call, got, in)
	}
}
