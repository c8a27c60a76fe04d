package intabulate_test

import (
	"fmt"
	"math/rand/v2"
	"slices"
	"testing"

	"theorbo/api"
	"theorbo/intabulate"
	"theorbo/voice"
)

// The figure and the part of the document's examples.
func example() (table []api.Figure, p []api.Tone) {
	return figures("2: 0 -1 0 1: 1 1 1 1"), part("60 0 96, 62 96 192")
}

// P8.1: the examples of the document.
func TestFigureExamples(t *testing.T) {
	table, p := example()
	for k, want := range []string{"1", ""} {
		l, e := intabulate.Fits(p, table, k)
		wants(t, "Fits", shownNumbers(l), e, want)
	}
	divided, e := intabulate.Divide(p, table, numbers("1 0"))
	wants(t, "Divide", shownPart(divided), e, "60 0 24, 59 24 48, 60 48 72, 61 72 96, 62 96 192")
	whole, e := intabulate.Undivide(divided, table, numbers("1 0"))
	wants(t, "Undivide", shownPart(whole), e, shownPart(p))
	if l, e := intabulate.Undivide(divided, table, numbers("0 1")); e != api.ErrFigure || len(l) > 0 {
		t.Errorf("Undivide with 0 1 = %v, %d", l, e)
	}
	for least, want := range map[int]string{1: "1 0", 24: "1 0", 25: "0 0", api.MaxTime: "0 0"} {
		picks, e := intabulate.Adorn(p, table, least)
		wants(t, fmt.Sprint("Adorn with ", least), shownNumbers(picks), e, want)
	}
	for picks, want := range map[string]api.Errno{"0 1": api.ErrFigure, "1": api.ErrArg, "0 0": api.OK} {
		if l, e := intabulate.Divide(p, table, numbers(picks)); e != want || e != api.OK && len(l) > 0 {
			t.Errorf("Divide with %s = %v, %d", picks, l, e)
		}
	}
}

// P8.1: each condition of a valid figure alone, at its ends.
func TestCheckTable(t *testing.T) {
	long := slices.Repeat([]int{0}, 32)
	ones := slices.Repeat([]int{1}, 33)
	for i, c := range []struct {
		f    api.Figure
		want api.Errno
	}{
		{api.Figure{Interval: 24, Moves: numbers("0"), Shares: numbers("1")}, api.OK},
		{api.Figure{Interval: -24, Moves: numbers("0"), Shares: numbers("64")}, api.OK},
		{api.Figure{Interval: 25, Moves: numbers("0"), Shares: numbers("1")}, api.ErrFigure},
		{api.Figure{Interval: -25, Moves: numbers("0"), Shares: numbers("1")}, api.ErrFigure},
		{api.Figure{Moves: numbers("0 24 -24"), Shares: numbers("1 1 64")}, api.OK},
		{api.Figure{Moves: numbers("0 25"), Shares: numbers("1 1")}, api.ErrFigure},
		{api.Figure{Moves: numbers("0 -25"), Shares: numbers("1 1")}, api.ErrFigure},
		{api.Figure{Moves: numbers("1 0"), Shares: numbers("1 1")}, api.ErrFigure},
		{api.Figure{Moves: numbers("-1"), Shares: numbers("1")}, api.ErrFigure},
		{api.Figure{Moves: numbers("0 0"), Shares: numbers("1 0")}, api.ErrFigure},
		{api.Figure{Moves: numbers("0 0"), Shares: numbers("65 1")}, api.ErrFigure},
		{api.Figure{Moves: numbers("0 0"), Shares: numbers("1 -1")}, api.ErrFigure},
		{api.Figure{Moves: numbers("0 0"), Shares: numbers("1")}, api.ErrFigure},
		{api.Figure{Moves: numbers("0"), Shares: numbers("1 1")}, api.ErrFigure},
		{api.Figure{Moves: numbers("0")}, api.ErrFigure},
		{api.Figure{Shares: numbers("1")}, api.ErrFigure},
		{api.Figure{}, api.ErrFigure},
		{api.Figure{Moves: long, Shares: ones[:32]}, api.OK},
		{api.Figure{Moves: append(long, 0), Shares: ones}, api.ErrFigure},
	} {
		for _, table := range [][]api.Figure{{c.f}, append(figures("0: 0: 1"), c.f), append([]api.Figure{c.f}, figures("0: 0: 1")...)} {
			if e := intabulate.CheckTable(table); e != c.want {
				t.Errorf("%d: CheckTable of %v: %d; it should be %d", i, table, e, c.want)
			}
		}
	}
	for _, none := range [][]api.Figure{nil, {}} {
		if e := intabulate.CheckTable(none); e != api.OK {
			t.Errorf("CheckTable of no figures: %d", e)
		}
	}
	for count, want := range map[int]api.Errno{64: api.OK, 65: api.ErrMany} {
		if e := intabulate.CheckTable(slices.Repeat(figures("0: 0: 1"), count)); e != want {
			t.Errorf("CheckTable of %d figures: %d", count, e)
		}
	}
	if e := intabulate.CheckTable(make([]api.Figure, 65)); e != api.ErrMany {
		t.Errorf("CheckTable of 65 figures that are not valid: %d", e)
	}
	for _, x := range hostile {
		for i, f := range []api.Figure{
			{Interval: x, Moves: numbers("0"), Shares: numbers("1")},
			{Moves: []int{x}, Shares: numbers("1")},
			{Moves: []int{0, x}, Shares: numbers("1 1")},
			{Moves: numbers("0"), Shares: []int{x}},
		} {
			valid := []bool{-24 <= x && x <= 24, x == 0, -24 <= x && x <= 24, 1 <= x && x <= 64}[i]
			if e := intabulate.CheckTable([]api.Figure{f}); e == api.OK != valid || e != api.OK && e != api.ErrFigure {
				t.Errorf("CheckTable of %v: %d", f, e)
			}
		}
	}
}

// P8.1: each condition of a figure that fits.
func TestFits(t *testing.T) {
	for _, c := range []struct{ part, table, want string }{
		{"60 0 96, 62 96 192", "2: 0: 1, 2: 0 1: 1 1, 1: 0: 1, -2: 0: 1, 2: 0 2: 1 2", "1 2 5"},
		{"62 0 96, 60 96 192", "2: 0: 1, -2: 0: 1", "2"},
		{"60 0 96, 60 96 192", "0: 0: 1", "1"},
		{"60 0 95, 62 96 192", "2: 0: 1", ""},                        // there is a pause
		{"60 0 96", "0: 0: 1", ""},                                   // there is no next tone
		{"60 0 7, 60 7 9", "0: 0: 1, 0: 0: 7, 0: 0: 8", "1 2"},       // the whole divides the length
		{"60 5 12, 60 12 19", "0: 0 0: 3 4, 0: 0 0: 2 3", "1"},       // the length, not the end
		{"0 0 4, 0 4 8", "0: 0 -1: 1 1, 0: 0 1: 1 1", "2"},           // no pitch is too low,
		{"127 0 4, 127 4 8", "0: 0 1: 1 1, 0: 0 -1: 1 1", "2"},       // nor too high
		{"120 0 4, 127 4 8", "7: 0 7 0 7: 1 1 1 1", "1"},             // the highest one
		{"120 0 4, 127 4 8", "7: 0 8 0 7: 1 1 1 1", ""},              // and one more
		{"127 0 4, 103 4 8", "-24: 0 -24: 1 1, 24: 0: 1", "1"},       // the widest interval
		{"60 0 64, 61 64 99", "1: 0: 64, 1: 0 0: 64 64", "1"},        // the greatest share
		{"60 0 96, 62 96 100", "2: 0: 1, 2: 0: 1, 2: 0: 1", "1 2 3"}, // equal figures
	} {
		l, e := intabulate.Fits(part(c.part), figures(c.table), 0)
		wants(t, "Fits of "+c.part+" and "+c.table, shownNumbers(l), e, c.want)
	}
}

// fit is the document's word for word.
func fit(p []api.Tone, f api.Figure, k int) bool {
	if k+1 >= len(p) || p[k+1].From != p[k].To || p[k+1].Pitch-p[k].Pitch != f.Interval || (p[k].To-p[k].From)%sum(f.Shares) != 0 {
		return false
	}
	for _, move := range f.Moves {
		if p[k].Pitch+move < 0 || p[k].Pitch+move > 127 {
			return false
		}
	}
	return true
}

// inFigure returns the tones into which a figure divides a tone.
func inFigure(tone api.Tone, f api.Figure) []api.Tone {
	var l []api.Tone
	shares := 0
	for i, share := range f.Shares {
		unit := (tone.To - tone.From) / sum(f.Shares)
		l = append(l, api.Tone{Pitch: tone.Pitch + f.Moves[i], From: tone.From + unit*shares, To: tone.From + unit*(shares+share)})
		shares += share
	}
	return l
}

// anyTable returns figures that often fit.
func anyTable(r *rand.Rand) []api.Figure {
	var table []api.Figure
	for range r.IntN(8) {
		f := api.Figure{Interval: r.IntN(5) - 2}
		for i := range 1 + r.IntN(4) {
			f.Moves = append(f.Moves, (r.IntN(7)-3)*min(i, 1))
			f.Shares = append(f.Shares, 1+r.IntN(2))
		}
		table = append(table, f)
	}
	return table
}

// anyMelody returns a part with small steps.
func anyMelody(r *rand.Rand) []api.Tone {
	p := anyPart(r, 9, 59, 61, 12)
	if r.IntN(8) == 0 {
		by := []int{-59, 66}[r.IntN(2)]
		for i := range p {
			p[i].Pitch += by
		}
	}
	return p
}

// P8.1, P8.7: figures of all kinds, by the document.
func TestFiguresByTheDocument(t *testing.T) {
	r := rand.New(rand.NewPCG(3, 4))
	fitting, divided, adorned := 0, 0, 0
	for range 4000 {
		p, table := anyMelody(r), anyTable(r)
		least := 1 + r.IntN(16)
		var picks, adorn []int
		var want []api.Tone
		for k, tone := range p {
			fits := slices.DeleteFunc(countUp(len(table)), func(n int) bool { return !fit(p, table[n-1], k) })
			l, e := intabulate.Fits(p, table, k)
			wants(t, "Fits of "+shownPart(p)+fmt.Sprint(table), shownNumbers(l), e, shownNumbers(fits))
			fitting += len(fits)
			pick := 0
			if len(fits) > 0 {
				pick = fits[r.IntN(len(fits))] * r.IntN(2)
			}
			picks = append(picks, pick)
			if pick == 0 {
				want = append(want, tone)
			} else {
				want = append(want, inFigure(tone, table[pick-1])...)
				divided++
			}
			i := slices.IndexFunc(fits, func(n int) bool {
				return !slices.ContainsFunc(inFigure(tone, table[n-1]), func(short api.Tone) bool { return short.To-short.From < least })
			})
			adorn = append(adorn, append(fits, 0)[max(i, 0)])
			if i < 0 {
				adorn[k] = 0
			} else {
				adorned++
			}
		}
		l, e := intabulate.Divide(p, table, picks)
		wants(t, "Divide of "+shownPart(p)+fmt.Sprint(table, picks), shownPart(l), e, shownPart(want))
		if voice.CheckParts([][]api.Tone{l}) != api.OK {
			t.Fatalf("Divide of %v = %v", p, l)
		}
		back, e := intabulate.Undivide(l, table, picks)
		wants(t, "Undivide of "+shownPart(l)+fmt.Sprint(table, picks), shownPart(back), e, shownPart(p))
		again, e := intabulate.Adorn(p, table, least)
		wants(t, fmt.Sprint("Adorn of ", p, table, least), shownNumbers(again), e, shownNumbers(adorn))
		if _, e := intabulate.Divide(p, table, again); e != api.OK {
			t.Fatalf("the picks of Adorn of %v, %v are %v; they do not fit", p, table, again)
		}
	}
	if fitting < 2000 || divided < 1000 || adorned < 1000 {
		t.Errorf("%d fit, %d divided, %d adorned", fitting, divided, adorned)
	}
}

// countUp returns the numbers from 1 to n.
func countUp(n int) []int {
	var l []int
	for i := range n {
		l = append(l, i+1)
	}
	return l
}

// P8.1: each pick that does not fit, and the greatest parts.
func TestDivide(t *testing.T) {
	table, p := example()
	p = append(p, part("64 192 288, 65 300 312")...)
	for picks, want := range map[string]api.Errno{
		"1 1 0 0": api.OK, "0 0 0 0": api.OK, "1 0 0 0": api.OK,
		"0 0 1 0": api.ErrFigure, "0 0 0 1": api.ErrFigure, "1 1 1 0": api.ErrFigure,
		"0 0 0": api.ErrArg, "0 0 0 0 0": api.ErrArg, "": api.ErrArg, "2 0 0 0": api.ErrArg, "0 0 0 -1": api.ErrArg, "0 0 1 2": api.ErrArg,
	} {
		if l, e := intabulate.Divide(p, table, numbers(picks)); e != want || e != api.OK && len(l) > 0 {
			t.Errorf("Divide with %q = %v, %d; it should be %d", picks, l, e, want)
		}
	}
	even := steady(100, 60, 8)
	table = figures("0: 0 1 0 1: 1 1 1 1, 0: 0 1 0 1 0: 1 1 1 1 4")
	picks := append(slices.Repeat([]int{1}, 99), 0)
	l, e := intabulate.Divide(even, table, picks)
	wants(t, "Divide into 397 tones", len(l), e, 397)
	picks[0], picks[1], picks[2] = 2, 2, 2
	l, e = intabulate.Divide(even, table, picks)
	wants(t, "Divide into 400 tones", len(l), e, 400)
	back, e := intabulate.Undivide(l, table, picks)
	wants(t, "Undivide of 400 tones", shownPart(back), e, shownPart(even))
	picks[3] = 2
	if l, e := intabulate.Divide(even, table, picks); e != api.ErrMany || len(l) > 0 {
		t.Errorf("Divide into 401 tones: %d tones, %d", len(l), e)
	}
	picks[99] = 1
	if l, e := intabulate.Divide(even, table, picks); e != api.ErrFigure || len(l) > 0 {
		t.Errorf("Divide into 404 tones, with a pick that does not fit: %d tones, %d", len(l), e)
	}
	for _, none := range [][]int{nil, {}} {
		if l, e := intabulate.Divide(nil, nil, none); e != api.OK || len(l) > 0 {
			t.Errorf("Divide of nothing = %v, %d", l, e)
		}
		if l, e := intabulate.Undivide(nil, nil, none); e != api.OK || len(l) > 0 {
			t.Errorf("Undivide of nothing = %v, %d", l, e)
		}
	}
}

// P8.1: what is no division.
func TestUndivide(t *testing.T) {
	table := figures("2: 0 -1 0 1: 1 1 1 1, 0: 0: 1, 0: 0 0: 1 2")
	for _, c := range []struct {
		part, picks string
		want        api.Errno
	}{
		{"60 0 24, 59 24 48, 60 48 72, 61 72 96, 62 96 192", "1 0", api.OK},
		{"60 0 24, 59 24 48, 60 48 72, 61 72 96, 62 96 192", "0 0 0 0 0", api.OK},
		{"60 0 24, 59 24 48, 60 48 72, 61 72 96, 62 96 192", "0 0 0 0", api.ErrFigure}, // not all taken
		{"60 0 24, 59 24 48, 60 48 72, 61 72 96, 62 96 192", "1", api.ErrFigure},       // not all taken
		{"60 0 24, 59 24 48, 60 48 72, 61 72 96, 62 96 192", "1 0 0", api.ErrFigure},   // not enough
		{"60 0 24, 59 24 48, 60 48 72, 61 72 96, 62 96 192", "0 1", api.ErrFigure},     // no next tone
		{"60 0 24, 59 24 48, 60 48 72, 61 72 96, 62 96 192", "0 0 1", api.ErrFigure},   // not enough
		{"60 0 24, 59 24 48, 60 48 72, 61 72 96, 63 96 192", "1 0", api.ErrFigure},     // another interval
		{"60 0 24, 59 24 48, 60 48 72, 60 72 96, 62 96 192", "1 0", api.ErrFigure},     // another move
		{"60 0 24, 59 24 49, 60 49 72, 61 72 96, 62 96 192", "1 0", api.ErrFigure},     // another share
		{"60 0 24, 59 24 48, 60 50 72, 61 72 96, 62 96 192", "1 0", api.ErrFigure},     // a pause in it
		{"60 0 24, 59 24 48, 60 48 72, 61 72 96, 62 97 192", "1 0", api.ErrFigure},     // a pause behind it
		{"60 0 24, 59 24 48, 60 48 72, 61 72 98, 62 98 192", "1 0", api.ErrFigure},     // does not divide the length
		{"60 0 24, 60 24 48", "2 0", api.OK},                                           // a figure of one tone
		{"60 0 24, 60 24 72, 60 72 96", "3 0", api.OK},
		{"60 0 24, 60 24 72, 60 72 96", "0 3", api.ErrFigure},
		{"60 0 24, 60 24 72, 60 72 96", "4 0", api.ErrArg},
		{"60 0 24, 60 24 72, 60 72 96", "-1 0", api.ErrArg},
		{"60 0 24, 60 24 72, 60 72 96", "3 4", api.ErrArg},
		{"", "0", api.ErrFigure},
		{"60 0 24", "", api.ErrFigure},
	} {
		l, e := intabulate.Undivide(part(c.part), table, numbers(c.picks))
		if e != c.want || e != api.OK && len(l) > 0 {
			t.Errorf("Undivide of %s with %q = %v, %d; it should be %d", c.part, c.picks, l, e, c.want)
		}
		if e == api.OK {
			again, e := intabulate.Divide(l, table, numbers(c.picks))
			wants(t, "Divide of "+shownPart(l), shownPart(again), e, c.part)
		}
	}
	for count, want := range map[int]api.Errno{400: api.ErrFigure, 401: api.ErrArg} {
		if l, e := intabulate.Undivide(part("60 0 24"), table, make([]int, count)); e != want || len(l) > 0 {
			t.Errorf("Undivide with %d picks = %v, %d", count, l, e)
		}
	}
}

// P8.1: Undivide finds out whether any picks divide a part, by the document.
func TestUndivideByTheDocument(t *testing.T) {
	r := rand.New(rand.NewPCG(5, 6))
	yes, no := 0, 0
	for range 4000 {
		whole, table := anyMelody(r), anyTable(r)
		picks, _ := intabulate.Adorn(whole, table, 1)
		p, _ := intabulate.Divide(whole, table, picks)
		switch r.IntN(6) {
		case 0:
			if len(p) > 0 {
				p[r.IntN(len(p))].Pitch ^= 1
			}
		case 1:
			if len(p) > 0 {
				p[len(p)-1].To++
			}
		case 2:
			p = p[:len(p)*r.IntN(3)/2%(len(p)+1)]
		case 3:
			if len(picks) > 0 {
				picks[r.IntN(len(picks))] = r.IntN(len(table) + 1)
			}
		}
		// The only part that may be the result: what the tones before each pick leave.
		var want []api.Tone
		next, enough := 0, true
		for _, pick := range picks {
			count := 1
			if pick > 0 {
				count = len(table[pick-1].Moves)
			}
			if next+count > len(p) {
				enough = false
				break
			}
			want = append(want, api.Tone{Pitch: p[next].Pitch, From: p[next].From, To: p[next+count-1].To})
			next += count
		}
		again, e := intabulate.Divide(want, table, picks)
		valid := enough && next == len(p) && e == api.OK && slices.Equal(again, p)
		l, e := intabulate.Undivide(p, table, picks)
		if valid && (e != api.OK || !slices.Equal(l, want)) || !valid && (e != api.ErrFigure || len(l) > 0) {
			t.Fatalf("Undivide of %v, %v, %v = %v, %d; it should be %v, %v", p, table, picks, l, e, want, valid)
		}
		if valid {
			yes++
		} else {
			no++
		}
	}
	if yes < 500 || no < 500 {
		t.Errorf("%d divisions, %d others", yes, no)
	}
}

// P8.7: a division sounds as long as the part, and each tone begins as it did.
func TestDivisionsSound(t *testing.T) {
	r := rand.New(rand.NewPCG(7, 8))
	for range 2000 {
		p, table := anyMelody(r), anyTable(r)
		picks, _ := intabulate.Adorn(p, table, 1+r.IntN(5))
		l, e := intabulate.Divide(p, table, picks)
		if e != api.OK {
			t.Fatalf("Divide of %v, %v, %v: %d", p, table, picks, e)
		}
		for time := range 400 {
			if sounds([][]api.Tone{p}, time) != sounds([][]api.Tone{l}, time) {
				t.Fatalf("Divide of %v, %v, %v = %v, at %d", p, table, picks, l, time)
			}
		}
		for _, tone := range p {
			if !slices.ContainsFunc(l, func(other api.Tone) bool { return other.From == tone.From && other.Pitch == tone.Pitch }) {
				t.Fatalf("Divide of %v, %v, %v = %v, without %v", p, table, picks, l, tone)
			}
		}
	}
}

// P8.1, R1, R2: the order of the errors.
func TestFigureErrors(t *testing.T) {
	table, p := example()
	long, bad := make([]api.Tone, 401), part("60 0 96, 62 95 192")
	many, wrong := make([]api.Figure, 65), []api.Figure{{}}
	for i, c := range []struct {
		part  []api.Tone
		table []api.Figure
		want  api.Errno
	}{
		{long, many, api.ErrMany},
		{bad, many, api.ErrPart},
		{p, many, api.ErrMany},
		{p, wrong, api.ErrFigure},
		{p, table, api.ErrArg},
		{nil, table, api.ErrArg},
		{nil, nil, api.ErrArg},
	} {
		for _, k := range []int{-1, len(c.part)} {
			if l, e := intabulate.Fits(c.part, c.table, k); e != c.want || len(l) > 0 {
				t.Errorf("%d: Fits = %v, %d; it should be %d", i, l, e, c.want)
			}
		}
		if l, e := intabulate.Divide(c.part, c.table, []int{-1}); e != c.want || len(l) > 0 {
			t.Errorf("%d: Divide = %v, %d; it should be %d", i, l, e, c.want)
		}
		if l, e := intabulate.Undivide(c.part, c.table, []int{0, 1, 2}); e != c.want || len(l) > 0 {
			t.Errorf("%d: Undivide = %v, %d; it should be %d", i, l, e, c.want)
		}
		for _, least := range []int{0, -1, api.MaxTime + 1} {
			if l, e := intabulate.Adorn(c.part, c.table, least); e != c.want || len(l) > 0 {
				t.Errorf("%d: Adorn = %v, %d; it should be %d", i, l, e, c.want)
			}
		}
	}
	// Within Divide: numbers that are no picks come before picks that do not fit.
	if _, e := intabulate.Divide(p, table, numbers("0 1")); e != api.ErrFigure {
		t.Errorf("Divide: %d", e)
	}
	if _, e := intabulate.Divide(p, table, numbers("2 1")); e != api.ErrArg {
		t.Errorf("Divide: %d", e)
	}
}

// P0.1, R5: any numbers.
func TestAnyPicks(t *testing.T) {
	table, p := example()
	for _, x := range hostile {
		l, e := intabulate.Fits(p, table, x)
		if (e == api.OK) != (x == 0 || x == 1) || e != api.OK && (e != api.ErrArg || len(l) > 0) {
			t.Errorf("Fits at %d = %v, %d", x, l, e)
		}
		l, e = intabulate.Adorn(p, table, x)
		if (e == api.OK) != (x >= 1 && x <= api.MaxTime) || e != api.OK && (e != api.ErrArg || len(l) > 0) {
			t.Errorf("Adorn with %d = %v, %d", x, l, e)
		}
		for _, picks := range [][]int{{x, 0}, {0, x}} {
			divide, undivide := api.ErrArg, api.ErrArg
			switch {
			case x == 0:
				divide, undivide = api.OK, api.OK
			case x == 1 && picks[0] == 1:
				divide, undivide = api.OK, api.ErrFigure
			case x == 1:
				divide, undivide = api.ErrFigure, api.ErrFigure
			}
			if l, e := intabulate.Divide(p, table, picks); e != divide || e != api.OK && len(l) > 0 {
				t.Errorf("Divide with %v = %v, %d", picks, l, e)
			}
			if l, e := intabulate.Undivide(p, table, picks); e != undivide || e != api.OK && len(l) > 0 {
				t.Errorf("Undivide with %v = %v, %d", picks, l, e)
			}
		}
	}
}
