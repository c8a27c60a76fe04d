package instrument_test

import (
	"math/rand/v2"
	"slices"
	"strings"
	"testing"

	"theorbo/api"
	"theorbo/instrument"
)

var standardTexts = []struct{ name, courses, steps string }{
	{"lute6", "G4/8 D4/8 A3/8 F3/8+ C3/8+ G2/8+", "1 2 3 4 5 6 7 8"},
	{"lute7", "G4/8 D4/8 A3/8 F3/8+ C3/8+ G2/8+ D2/8+", "1 2 3 4 5 6 7 8"},
	{"lute10", "G4/8 D4/8 A3/8 F3/8 C3/8+ G2/8+ F2/8+ Eb2/8+ D2/8+ C2/8+", "1 2 3 4 5 6 7 8"},
	{"baroque13", "F4/9 D4/9 A3/9 F3/9 D3/9 A2/9+ G2/9+ F2/9+ E2/0+ D2/0+ C2/0+ B1/0+ A1/0+", "1 2 3 4 5 6 7 8 9"},
	{"theorbo14", "A3/8 E3/8 B3/8 G3/8 D3/8 A2/8 G2/0 F2/0 E2/0 D2/0 C2/0 B1/0 A1/0 G1/0", "1 2 3 4 5 6 7 8"},
	{"vihuela6", "G4/10 D4/10 A3/10 F3/10 C3/10 G2/10", "1 2 3 4 5 6 7 8 9 10"},
	{"guitar4", "A4/8 E4/8 C4/8 G3/8+", "1 2 3 4 5 6 7 8"},
	{"guitar5", "E4/8 B3/8 G3/8 D4/8 A3/8", "1 2 3 4 5 6 7 8"},
	{"cittern4", "E4/9 D4/9 G3/9 B3/9", "2 3 4 5 7 9 10 11 12"},
}

// P1.15
func TestStandard(t *testing.T) {
	names := instrument.Names()
	if len(names) != len(standardTexts) {
		t.Fatalf("Names = %v", names)
	}
	for i, row := range standardTexts {
		if names[i] != row.name {
			t.Errorf("name %d is %q, want %q", i, names[i], row.name)
		}
		in := standard(t, row.name)
		if s, e := instrument.Format(in); s != row.courses+" : "+row.steps || e != api.OK {
			t.Errorf("Standard(%q) is %q, %d", row.name, s, e)
		}
	}
	want := api.Instrument{
		Courses: []api.Course{{Pitch: 69, Frets: 8}, {Pitch: 64, Frets: 8}, {Pitch: 60, Frets: 8}, {Pitch: 55, Frets: 8, Octave: true}},
		Steps:   steps(8),
	}
	if in := standard(t, "guitar4"); !equal(in, want) {
		t.Errorf("Standard(guitar4) = %v, want %v", in, want)
	}
	want = api.Instrument{
		Courses: []api.Course{{Pitch: 64, Frets: 9}, {Pitch: 62, Frets: 9}, {Pitch: 55, Frets: 9}, {Pitch: 59, Frets: 9}},
		Steps:   []int{2, 3, 4, 5, 7, 9, 10, 11, 12},
	}
	if in := standard(t, "cittern4"); !equal(in, want) {
		t.Errorf("Standard(cittern4) = %v, want %v", in, want)
	}
	for _, name := range []string{"", "lute", "lute5", "lute66", "Lute6", "LUTE6", " lute6", "lute6 ", "lute6\n", "theorbo", "G4/8 : 1 2 3 4 5 6 7 8"} {
		if in, e := instrument.Standard(name); !isZero(in) || e != api.ErrNone {
			t.Errorf("Standard(%q) = %v, %d, want ErrNone", name, in, e)
		}
	}
}

// R4: what a caller does to a result does not reach the next one.
func TestStandardIsNewMemory(t *testing.T) {
	for _, name := range instrument.Names() {
		a, b := standard(t, name), standard(t, name)
		apart(t, "Standard", a, b)
		if c := standard(t, name); !equal(b, c) {
			t.Errorf("Standard(%q) has become %v", name, c)
		}
	}
	names := instrument.Names()
	kept := slices.Clone(names)
	clear(names)
	if !slices.Equal(instrument.Names(), kept) {
		t.Errorf("Names has become %v", instrument.Names())
	}
}

// P1.16
func TestFormat(t *testing.T) {
	for _, c := range []struct {
		in   api.Instrument
		want string
	}{
		{tuned(0), "C-1/0 :"},
		{tuned(127), "G9/0 :"},
		{tuned(60, 61, 62, 63, 64, 65, 66, 67, 68, 69, 70, 71), "C4/0 C#4/0 D4/0 Eb4/0 E4/0 F4/0 F#4/0 G4/0 G#4/0 A4/0 Bb4/0 B4/0 :"},
		{api.Instrument{Courses: []api.Course{{Pitch: 56, Octave: true}, {Pitch: 60, Frets: 1}}, Steps: []int{2}}, "G#3/0+ C4/1 : 2"},
		{api.Instrument{Courses: []api.Course{{Frets: 18, Octave: true}}, Steps: append(steps(17), 100)}, "C-1/18+ : 1 2 3 4 5 6 7 8 9 10 11 12 13 14 15 16 17 100"},
		{api.Instrument{Courses: courses(1, 58), Steps: []int{1, 127}}, "Bb3/0 : 1 127"},
		{standard(t, "cittern4"), "E4/9 D4/9 G3/9 B3/9 : 2 3 4 5 7 9 10 11 12"},
	} {
		if s, e := instrument.Format(c.in); s != c.want || e != api.OK {
			t.Errorf("Format(%v) = %q, %d, want %q", c.in, s, e, c.want)
		}
	}
	for name, b := range broken() {
		if s, e := instrument.Format(b.in); s != "" || e != b.e {
			t.Errorf("Format(%s) = %q, %d, want %d", name, s, e, b.e)
		}
	}
}

// P1.17
func TestParse(t *testing.T) {
	for text, want := range map[string]api.Instrument{
		"C4/0 :":                                tuned(60),
		"C-1/0 :":                               tuned(0),
		"G9/0 : 127":                            {Courses: courses(1, 127), Steps: []int{127}},
		"Ab3/0+ C4/1 : 2":                       {Courses: []api.Course{{Pitch: 56, Octave: true}, {Pitch: 60, Frets: 1}}, Steps: []int{2}},
		"G#3/0+ C4/1 : 2":                       {Courses: []api.Course{{Pitch: 56, Octave: true}, {Pitch: 60, Frets: 1}}, Steps: []int{2}},
		"B#3/0 Cb4/0 Fb4/0 E#4/0 A#3/0 Db4/0 :": tuned(60, 59, 64, 65, 58, 61),
		"C#-1/18 : 1 2 3 4 5 6 7 8 9 10 11 12 13 14 15 16 17 100":    {Courses: []api.Course{{Pitch: 1, Frets: 18}}, Steps: append(steps(17), 100)},
		"C4/10+ : 1 2 3 4 5 6 7 8 9 10":                              {Courses: []api.Course{{Pitch: 60, Frets: 10, Octave: true}}, Steps: steps(10)},
		strings.Repeat("C4/0 ", 14) + ":":                            {Courses: courses(14, 60)},
		"G4/8 D4/8 A3/8 F3/8+ C3/8+ G2/8+ : 1 2 3 4 5 6 7 8":         standard(t, "lute6"),
		"E4/0 : 1 2 3 4 5 6 7 8 9 10 11 12 13 14 15 16 17 18":        {Courses: courses(1, 64), Steps: steps(18)},
		"G4/8 D4/8 A3/8 F3/8+ C3/8+ G2/8+ D2/8+ : 1 2 3 4 5 6 7 8":   standard(t, "lute7"),
		"E4/9 D4/9 G3/9 B3/9 : 2 3 4 5 7 9 10 11 12":                 standard(t, "cittern4"),
		"A4/8 E4/8 B#3/8 G3/8+ : 1 2 3 4 5 6 7 8":                    standard(t, "guitar4"),
		"E4/8 B3/8 G3/8 D4/8 A3/8 : 1 2 3 4 5 6 7 8":                 standard(t, "guitar5"),
		"G4/10 D4/10 A3/10 F3/10 C3/10 G2/10 : 1 2 3 4 5 6 7 8 9 10": standard(t, "vihuela6"),
	} {
		if in, e := instrument.Parse(text); !equal(in, want) || e != api.OK {
			t.Errorf("Parse(%q) = %v, %d, want %v", text, in, e, want)
		}
	}
}

// P1.17: texts and words that do not have the form.
func TestParseForm(t *testing.T) {
	for _, text := range []string{
		"", " ", "G4/8", "G4/8:", "G4/0 :1", "G4/0: 1", "G4/0 1", "G#9/0", "G4/0 :\n", "G4/0 : 1\n", "\n",
		" G4/0 :", " :", "G4/0  :", "G4/0 : ", "G4/0 :  1", "G4/0 : 1 ", "G4/0 : 1  2", "  :",
		"G4 :", "G4/ :", "/0 :", "G4/+ :", "G4/00 :", "G4/01 :", "G4/-1 :", "G4/1000 :", "G4/0000 :", "G4/x :", "G4/1x :", "G4/++ :",
		"G4/0++ :", "G4/+0 :", "G4/0+0 :", "G4//0 :", "G4/0/ :", "G4/0/0 :", "G4+/0 :", "g4/0 :", "H4/0 :", "G10/0 :", "G/0 :", "G4/0\t:", "G4/0 :\t1",
		"G4/0 : 00", "G4/0 : 01", "G4/0 : 1000", "G4/0 : -1", "G4/0 : +1", "G4/0 : 1+", "G4/0 : x", "G4/0 : :", "G4/0 : 1 :", ": :", "G4/0 : 1.0", "G4/0 : 1,2", "G4/0 : 0x1", "G4/0 : １",
		"G4/0 :: 1", "G4/0 : G4/0", "G4/9999999999999999999999 :", "G4/0 : 18446744073709551617", "G4/٣ :",
	} {
		if in, e := instrument.Parse(text); !isZero(in) || e != api.ErrForm {
			t.Errorf("Parse(%q) = %v, %d, want ErrForm", text, in, e)
		}
	}
}

// P1.17: the other errors, and which one comes first.
func TestParseErrors(t *testing.T) {
	for text, want := range map[string]api.Errno{
		"G#9/0 :":                            api.ErrPitch,
		"Cb-1/0 :":                           api.ErrPitch,
		"G#9/0+ : 1":                         api.ErrPitch,
		"G#9/x :":                            api.ErrForm,
		"G#9 :":                              api.ErrForm,
		"G#9/0++ :":                          api.ErrForm,
		"G#9/0":                              api.ErrForm,
		"G#9/0 x :":                          api.ErrPitch,
		"x G#9/0 :":                          api.ErrForm,
		"G#9/0 : x":                          api.ErrPitch,
		"G4/0 G#9/0 : x":                     api.ErrPitch,
		"G4/999 : x":                         api.ErrForm,
		"G4/9 G#9/0 :":                       api.ErrPitch,
		":":                                  api.ErrInstrument,
		": 1 2":                              api.ErrInstrument,
		"G4/0 : 0":                           api.ErrInstrument,
		"G4/0 : 128":                         api.ErrInstrument,
		"G4/0 : 999":                         api.ErrInstrument,
		"G4/0 : 2 2":                         api.ErrInstrument,
		"G4/0 : 3 2":                         api.ErrInstrument,
		"G4/1 :":                             api.ErrFret,
		"G4/999 : 1":                         api.ErrFret,
		"G4/2 : 1":                           api.ErrFret,
		"G4/100 : 0":                         api.ErrInstrument,
		"G9/1 : 1":                           api.ErrPitch,
		"G9/0+ :":                            api.ErrPitch,
		"F#8/0 G#8/0+ :":                     api.ErrPitch,
		"G9/1 G4/2 : 1":                      api.ErrPitch,
		"G4/2 G9/1 : 1":                      api.ErrFret,
		strings.Repeat("C4/0 ", 15) + ":":    api.ErrMany,
		strings.Repeat("C4/9 ", 15) + ": 0":  api.ErrMany,
		strings.Repeat("C4/0 ", 15) + ": x":  api.ErrForm,
		"C4/0 :" + strings.Repeat(" 1", 19):  api.ErrMany,
		"C4/0 :" + strings.Repeat(" 01", 19): api.ErrForm,
	} {
		if in, e := instrument.Parse(text); !isZero(in) || e != want {
			t.Errorf("Parse(%q) = %v, %d, want %d", text, in, e, want)
		}
	}
	if in, e := instrument.Parse("G8/0+ :"); e != api.OK || !equal(in, api.Instrument{Courses: []api.Course{{Pitch: 115, Octave: true}}}) {
		t.Errorf("Parse(G8/0+ :) = %v, %d", in, e)
	}
}

// P1.18, of instruments
func TestInstrumentsThereAndBack(t *testing.T) {
	for _, in := range valid(t) {
		s, e := instrument.Format(in)
		back, f := instrument.Parse(s)
		if e != api.OK || f != api.OK || !instrument.Same(back, in) || !equal(back, in) {
			t.Errorf("Parse(Format(%v)) = %v, %d, %d", in, back, e, f)
		}
	}
}

// P1.17: a changed byte gives an error, or a text that means the instrument that is returned.
func TestParseChangedTexts(t *testing.T) {
	const signs = "ABGHb#0123456789-+/: \nx"
	r := rand.New(rand.NewPCG(3, 4))
	for _, row := range standardTexts {
		text := row.courses + " : " + row.steps
		for range 2000 {
			b := []byte(text)
			for range 1 + r.IntN(2) {
				b[r.IntN(len(b))] = signs[r.IntN(len(signs))]
			}
			in, e := instrument.Parse(string(b))
			if e != api.OK {
				if !isZero(in) {
					t.Fatalf("Parse(%q) = %v, %d", b, in, e)
				}
				continue
			}
			s, e := instrument.Format(in)
			if again, f := instrument.Parse(s); e != api.OK || f != api.OK || !equal(again, in) || strings.Count(s, " ") != strings.Count(string(b), " ") {
				t.Fatalf("Parse(%q) = %v, which is %q", b, in, s)
			}
		}
	}
}
