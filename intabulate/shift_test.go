package intabulate_test

import (
	"fmt"
	"math/rand/v2"
	"testing"

	"theorbo/api"
	"theorbo/hand"
	"theorbo/instrument"
	"theorbo/intabulate"
)

// P8.2: Transpose adds to all pitches, or to none.
func TestTranspose(t *testing.T) {
	for _, c := range []struct {
		parts string
		by    int
		want  string
	}{
		{"60 0 96; 62 5 9, 64 96 192", 3, "63 0 96; 65 5 9, 67 96 192"},
		{"60 0 96; ; 62 5 9", -24, "36 0 96; ; 38 5 9"},
		{"60 0 96; 62 5 9", 0, "60 0 96; 62 5 9"},
		{"103 0 96; 24 5 9", 24, "127 0 96; 48 5 9"},
		{"24 0 96", -24, "0 0 96"},
		{"none", 24, ""},
		{"", 24, ""},
	} {
		l, e := intabulate.Transpose(parts(c.parts), c.by)
		wants(t, "Transpose of "+c.parts, shownParts(l), e, c.want)
		if len(l) != len(parts(c.parts)) {
			t.Errorf("Transpose of %s has %d parts", c.parts, len(l))
		}
	}
	for i, c := range []struct {
		parts [][]api.Tone
		by    int
		want  api.Errno
	}{
		{make([][]api.Tone, 7), 25, api.ErrMany},
		{parts("60 0 0"), 25, api.ErrPart},
		{parts("127 0 96"), 25, api.ErrArg},
		{parts("127 0 96"), -25, api.ErrArg},
		{parts("104 0 96"), 24, api.ErrPart},
		{parts("23 0 96"), -24, api.ErrPart},
		{parts("60 0 96; 60 0 96, 127 96 192"), 1, api.ErrPart},
		{parts("60 0 96; 60 0 96, 0 96 192"), -1, api.ErrPart},
	} {
		if l, e := intabulate.Transpose(c.parts, c.by); e != c.want || len(l) > 0 {
			t.Errorf("%d: Transpose = %v, %d; it should be %d", i, l, e, c.want)
		}
	}
	for _, x := range hostile {
		l, e := intabulate.Transpose(parts("60 0 96"), x)
		if e == api.OK != (-24 <= x && x <= 24) || e == api.OK && l[0][0].Pitch != 60+x || e != api.OK && len(l) > 0 {
			t.Errorf("Transpose by %d = %v, %d", x, l, e)
		}
	}
}

// missing counts tones by the document.
func missing(parts [][]api.Tone, in api.Instrument, shift int) int {
	count := 0
	for _, p := range parts {
		for _, tone := range p {
			if places, e := instrument.Places(in, tone.Pitch+shift); e != api.OK || len(places) == 0 {
				count++
			}
		}
	}
	return count
}

// P8.2: Missing counts the tones without a place.
func TestMissing(t *testing.T) {
	for _, c := range []struct {
		parts string
		shift int
		want  int
	}{
		{"42 0 96", 0, 1},
		{"42 0 96", 1, 0},
		{"43 0 96, 75 96 192; 76 0 96", 0, 1},
		{"43 0 96, 75 96 192; 76 0 96", -1, 1},
		{"43 0 96, 75 96 192; 76 0 96", 24, 2},
		{"127 0 96; 0 0 96", 24, 2},
		{"127 0 96; 0 0 96", -24, 2},
		{"none", 24, 0},
	} {
		count, e := intabulate.Missing(parts(c.parts), lute(), c.shift)
		wants(t, "Missing of "+c.parts+fmt.Sprint(" with ", c.shift), count, e, c.want)
	}
	bad := lute()
	bad.Steps = nil
	for i, c := range []struct {
		parts [][]api.Tone
		in    api.Instrument
		want  api.Errno
	}{
		{make([][]api.Tone, 7), bad, api.ErrMany},
		{parts("60 0 0"), bad, api.ErrPart},
		{parts("60 0 96"), bad, api.ErrFret},
		{parts("60 0 96"), api.Instrument{}, api.ErrInstrument},
		{parts("60 0 96"), lute(), api.ErrArg},
	} {
		for _, shift := range []int{25, -25} {
			if count, e := intabulate.Missing(c.parts, c.in, shift); e != c.want || count != 0 {
				t.Errorf("%d: Missing = %d, %d; it should be %d", i, count, e, c.want)
			}
		}
		if shift, count, e := intabulate.Fit(c.parts, c.in); c.want != api.ErrArg && (e != c.want || shift != 0 || count != 0) {
			t.Errorf("%d: Fit = %d, %d, %d; it should be %d", i, shift, count, e, c.want)
		}
	}
	for _, x := range hostile {
		if count, e := intabulate.Missing(parts("127 0 96"), lute(), x); e == api.OK != (-24 <= x && x <= 24) || e == api.OK && count != 1 || e != api.OK && count != 0 {
			t.Errorf("Missing with %d = %d, %d", x, count, e)
		}
	}
}

// P8.2: the shift of Fit.
func TestFit(t *testing.T) {
	for _, c := range []struct {
		parts, courses string
		want           string
	}{
		{"42 0 96", "G4/8 D4/8 A3/8 F3/8+ C3/8+ G2/8+ : 1 2 3 4 5 6 7 8", "1 0"},
		{"60 0 96", "C4/0 :", "0 0"},
		{"61 0 96", "C4/0 :", "-1 0"},
		{"60 0 96", "C4/0 C#4/0 :", "0 0"},
		{"60 0 96", "B3/0 C#4/0 :", "1 0"}, // of 1 and -1 the positive one
		{"60 0 96", "Bb3/0 C#4/0 :", "1 0"},
		{"60 0 96", "B3/0 D4/0 :", "-1 0"},
		{"60 0 96; 62 0 96", "B3/0 D4/0 :", "0 1"}, // as many with 0, -1 and 2
		{"60 0 96; 61 0 96; 64 0 96", "B3/0 C4/0 :", "-1 1"},
		{"84 0 96", "C4/0 :", "-24 0"},
		{"36 0 96", "C4/0 :", "24 0"},
		{"85 0 96; 35 0 96", "C4/0 :", "0 2"},
		{"none", "C4/0 :", "0 0"},
	} {
		shift, count, e := intabulate.Fit(parts(c.parts), strung(c.courses))
		wants(t, "Fit of "+c.parts+" on "+c.courses, fmt.Sprint(shift, " ", count), e, c.want)
	}
}

// P8.2, P8.8: Missing, and the shift of Fit, which no other one surpasses; a tone without a place is dropped.
func TestFitByTheDocument(t *testing.T) {
	r := rand.New(rand.NewPCG(9, 10))
	shifted, some := 0, 0
	for range 1000 {
		k := task{anyParts(r, r.IntN(4), 4, 40+r.IntN(30), 70+r.IntN(40)), anyInstrument(r), hand.Standard(), 0}
		if r.IntN(3) == 0 {
			k.in, _ = instrument.Standard("cittern4")
		}
		best, least := 0, missing(k.parts, k.in, 0)
		for _, by := range fromZero() {
			count, e := intabulate.Missing(k.parts, k.in, by)
			wants(t, "Missing of "+k.String(), count, e, missing(k.parts, k.in, by))
			if count < least {
				best, least = by, count
			}
		}
		shift, count, e := intabulate.Fit(k.parts, k.in)
		wants(t, "Fit of "+k.String(), fmt.Sprint(shift, " ", count), e, fmt.Sprint(best, " ", least))
		if shift != 0 {
			shifted++
		}
		if count > 0 {
			some++
		}
		k.shift = shift
		s := k.must(t)
		for i, p := range k.parts {
			for j, tone := range p {
				if len(places(k.in, tone.Pitch+shift)) == 0 && s.Where[i][j] != (api.Place{}) {
					t.Fatalf("the tone %d.%d of %v has no place, and is played at %v", i, j, k, s.Where[i][j])
				}
			}
		}
		if dropped, _, _ := intabulate.Lost(s); dropped < count {
			t.Fatalf("%d tones of %v are dropped, %d have no place", dropped, k, count)
		}
	}
	if shifted < 300 || some < 300 {
		t.Errorf("%d are shifted, of %d some tones have no place", shifted, some)
	}
}

// fromZero returns the shifts in the order in which Fit prefers them.
func fromZero() []int {
	l := []int{0}
	for far := 1; far <= 24; far++ {
		l = append(l, far, -far)
	}
	return l
}

func places(in api.Instrument, pitch int) []api.Place {
	l, _ := instrument.Places(in, pitch)
	return l
}

// P8.2: the times of parts.
func TestTimes(t *testing.T) {
	for text, want := range map[string]string{
		"67 0 96, 69 96 192":                    "0 96 192",
		"none":                                  "0",
		"":                                      "0",
		"; ":                                    "0",
		"67 96 192":                             "0 96 192",
		"67 0 192; 67 0 96, 60 96 192":          "0 96 192",
		"67 0 96; 60 0 48":                      "0 96",
		"67 0 48; 60 0 96":                      "0 96",
		"67 0 48; 60 48 96":                     "0 48 96",
		"67 0 48; 60 49 96":                     "0 48 49 96",
		"67 0 48, 69 60 72; 60 47 61, 62 80 81": "0 47 60 72 80 81",
		"67 5 7":                                "0 5 7",
		"67 0 262144":                           "0 262144",
		"67 10 20; 60 0 5":                      "0 5 10 20",
	} {
		l, e := intabulate.Times(parts(text))
		wants(t, "Times of "+text, shownNumbers(l), e, want)
	}
	for i, c := range []struct {
		parts [][]api.Tone
		want  api.Errno
	}{
		{make([][]api.Tone, 7), api.ErrMany},
		{[][]api.Tone{make([]api.Tone, 401)}, api.ErrMany},
		{parts("67 0 96, 69 95 192"), api.ErrPart},
		{parts("128 0 96"), api.ErrPart},
	} {
		if l, e := intabulate.Times(c.parts); e != c.want || len(l) > 0 {
			t.Errorf("%d: Times = %v, %d; it should be %d", i, l, e, c.want)
		}
	}
	r := rand.New(rand.NewPCG(11, 12))
	for range 2000 {
		l := anyParts(r, r.IntN(7), 6, 60, 70)
		times, e := intabulate.Times(l)
		wants(t, "Times of "+shownParts(l), shownNumbers(times), e, shownNumbers(timesOf(l)))
	}
}
