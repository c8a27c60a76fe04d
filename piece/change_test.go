package piece_test

import (
	"fmt"
	"slices"
	"testing"

	"theorbo/api"
	"theorbo/instrument"
	"theorbo/piece"
)

// inForce are the signs in force at the events of a valid piece.
func inForce(p api.Piece) []api.Sign {
	var l []api.Sign
	var sign api.Sign
	for _, ev := range p.Events {
		if ev.Sign != (api.Sign{}) {
			sign = ev.Sign
		}
		l = append(l, sign)
	}
	return l
}

// P2.7: the sign in force at every event, nothing else.
func TestPlain(t *testing.T) {
	for _, p := range pieces(t) {
		want := copied(p)
		for i, s := range inForce(p) {
			want.Events[i].Sign = s
		}
		got, e := piece.Plain(p)
		wants(t, "Plain of "+shown(p), got, e, want, api.OK)
	}
	got, e := piece.Plain(made("|4. 1/2r1g2h1", "- ~", "|- %", "5t 2/0", "5t 3/0", "- %"))
	wants(t, "Plain", got, e, made("|4. 1/2r1g2h1", "4. ~", "|4. %", "5t 2/0", "5t 3/0", "5t %"), api.OK)
	for name, b := range broken() {
		got, e := piece.Plain(b.p)
		wants(t, "Plain of "+name, got, e, api.Piece{}, b.e)
	}
}

// P2.7: a sign only where it differs, nothing else.
func TestTerse(t *testing.T) {
	for _, p := range pieces(t) {
		want := copied(p)
		signs := inForce(p)
		for i := range want.Events {
			if i > 0 && signs[i] == signs[i-1] {
				want.Events[i].Sign = api.Sign{}
			}
		}
		got, e := piece.Terse(p)
		wants(t, "Terse of "+shown(p), got, e, want, api.OK)
	}
	got, e := piece.Terse(made("|4 1/2r1g2h1", "4 ~", "4. %", "|4. 2/0", "4t 3/0", "-  ~", "4t %", "4 %", "- %", "4 %"))
	wants(t, "Terse", got, e, made("|4 1/2r1g2h1", "- ~", "4. %", "|- 2/0", "4t 3/0", "- ~", "- %", "4 %", "- %", "- %"), api.OK)
	for name, b := range broken() {
		got, e := piece.Terse(b.p)
		wants(t, "Terse of "+name, got, e, api.Piece{}, b.e)
	}
}

// P2.8: marks, ornaments and holds of all stops.
func TestBare(t *testing.T) {
	for _, p := range pieces(t) {
		want := copied(p)
		for _, ev := range want.Events {
			for j := range ev.Stops {
				ev.Stops[j].Right, ev.Stops[j].Grace, ev.Stops[j].Hold = 0, 0, 0
			}
		}
		got, e := piece.Bare(p)
		wants(t, "Bare of "+shown(p), got, e, want, api.OK)
	}
	got, e := piece.Bare(made("|4 1/2r1 2/3g4 3/1h1 4/0r3g2", "- ~", "|5 %"))
	wants(t, "Bare", got, e, made("|4 1/2 2/3 3/1 4/0", "- ~", "|5 %"), api.OK)
	for name, b := range broken() {
		got, e := piece.Bare(b.p)
		wants(t, "Bare of "+name, got, e, api.Piece{}, b.e)
	}
}

// cutOf cuts a valid piece as the document says.
func cutOf(p api.Piece, from, to int) api.Piece {
	want := copied(p)
	want.Events = want.Events[from:to]
	for i, ev := range want.Events {
		for j := range ev.Stops {
			for ev.Stops[j].Hold > 0 && from+i+ev.Stops[j].Hold >= to {
				ev.Stops[j].Hold--
			}
		}
	}
	if from < to {
		want.Events[0].Sign = inForce(p)[from]
		want.Events[0].Tie = false
	}
	return want
}

// P2.11: every stretch.
func TestCut(t *testing.T) {
	for i, p := range pieces(t) {
		n := len(p.Events)
		for from := range n + 1 {
			for to := from; to <= n; to++ {
				if n > 30 && (from%97 > 1 || to%89 > 1) || n > 8 && (from+to)%8 != i%8 {
					continue
				}
				got, e := piece.Cut(p, from, to)
				wants(t, fmt.Sprintf("Cut(%s, %d, %d)", shown(p), from, to), got, e, cutOf(p, from, to), api.OK)
			}
		}
	}
	p := made("4 1/2r1g2h3 2/5h1", "|- ~", "|- ~", "5 3/3h1", "- ~", "- %")
	for _, c := range []struct {
		from, to int
		want     []string
	}{
		{0, 6, []string{"4 1/2r1g2h3 2/5h1", "|- ~", "|- ~", "5 3/3h1", "- ~", "- %"}},
		{0, 2, []string{"4 1/2r1g2h1 2/5h1", "|- ~"}},
		{0, 1, []string{"4 1/2r1g2 2/5"}},
		{1, 3, []string{"|4 %", "|- ~"}},
		{2, 4, []string{"|4 %", "5 3/3"}},
		{4, 6, []string{"5 %", "- %"}},
		{5, 6, []string{"5 %"}},
		{0, 0, nil}, {3, 3, nil}, {6, 6, nil},
	} {
		got, e := piece.Cut(p, c.from, c.to)
		wants(t, fmt.Sprintf("Cut(%d, %d)", c.from, c.to), got, e, made(c.want...), api.OK)
	}
}

// P2.11: the errors and their order.
func TestCutErrors(t *testing.T) {
	p := made("4 1/0", "- 2/0", "- 3/0")
	for _, from := range hostile {
		for _, to := range hostile {
			want := api.OK
			if from < 0 || from > to || to > 3 {
				want = api.ErrArg
			}
			got, e := piece.Cut(p, from, to)
			if e != want || e != api.OK && !isZero(got) {
				t.Errorf("Cut(%d, %d) = %s, %d, want %d", from, to, shown(got), e, want)
			}
		}
	}
	for name, b := range broken() {
		for _, c := range [][2]int{{0, 0}, {0, 1}, {-1, 0}, {1, 0}, {0, 999}} {
			got, e := piece.Cut(b.p, c[0], c[1])
			wants(t, "Cut of "+name, got, e, api.Piece{}, b.e)
		}
	}
}

// P2.13: every number, on every piece.
func TestAugment(t *testing.T) {
	for _, p := range pieces(t) {
		for by := -8; by <= 8; by++ {
			want, fault := copied(p), api.OK
			for i := range want.Events {
				value := &want.Events[i].Sign.Value
				if *value == 0 {
					continue
				}
				*value -= by
				if *value < 1 || *value > 7 {
					fault = api.ErrSign
				}
			}
			if by < -6 || by > 6 {
				fault = api.ErrArg
			}
			got, e := piece.Augment(p, by)
			wants(t, fmt.Sprintf("Augment(%s, %d)", shown(p), by), got, e, want, fault)
		}
	}
	p := made("|4. 1/2r1g2h1", "- ~", "6 %", "|5t 2/0")
	for _, c := range []struct {
		by   int
		want []string
		e    api.Errno
	}{
		{0, []string{"|4. 1/2r1g2h1", "- ~", "6 %", "|5t 2/0"}, api.OK},
		{1, []string{"|3. 1/2r1g2h1", "- ~", "5 %", "|4t 2/0"}, api.OK},
		{3, []string{"|1. 1/2r1g2h1", "- ~", "3 %", "|2t 2/0"}, api.OK},
		{-1, []string{"|5. 1/2r1g2h1", "- ~", "7 %", "|6t 2/0"}, api.OK},
		{4, nil, api.ErrSign}, {6, nil, api.ErrSign}, {-2, nil, api.ErrSign}, {-6, nil, api.ErrSign}, {7, nil, api.ErrArg}, {-7, nil, api.ErrArg},
	} {
		got, e := piece.Augment(p, c.by)
		wants(t, fmt.Sprintf("Augment by %d", c.by), got, e, made(c.want...), c.e)
	}
	got, e := piece.Augment(made("7 1/0", "- ~"), 6)
	wants(t, "Augment by 6", got, e, made("1 1/0", "- ~"), api.OK)
	got, e = piece.Augment(made("1t 1/0", "- ~"), -6)
	wants(t, "Augment by -6", got, e, made("7t 1/0", "- ~"), api.OK)
}

// P2.13: the errors and their order.
func TestAugmentErrors(t *testing.T) {
	for _, by := range hostile {
		if by >= -6 && by <= 6 {
			continue
		}
		for _, p := range []api.Piece{made(), made("4 1/0"), made("1 1/0", "7 %")} {
			got, e := piece.Augment(p, by)
			wants(t, fmt.Sprintf("Augment by %d", by), got, e, api.Piece{}, api.ErrArg)
		}
	}
	for name, b := range broken() {
		for _, by := range []int{0, 1, 6, 7, -99} {
			got, e := piece.Augment(b.p, by)
			wants(t, "Augment of "+name, got, e, api.Piece{}, b.e)
		}
	}
}

// P2.12: the events of both, field by field.
func TestAppend(t *testing.T) {
	all := pieces(t)
	for i, a := range all {
		// The piece itself, if no other one has its instrument.
		b := a
		for j := range all {
			if c := all[(i+j+1)%len(all)]; instrument.Same(a.Instrument, c.Instrument) {
				b = c
				break
			}
		}
		want, fault := copied(a), api.OK
		want.Events = append(want.Events, copied(b).Events...)
		if len(want.Events) > 400 {
			fault = api.ErrMany
		}
		got, e := piece.Append(a, b)
		wants(t, "Append("+shown(a)+", "+shown(b)+")", got, e, want, fault)
	}
	got, e := piece.Append(made("4 1/2h1", "- ~"), made("|5 1/2r1g2h1", "- ~", "- %"))
	wants(t, "Append", got, e, made("4 1/2h1", "- ~", "|5 1/2r1g2h1", "- ~", "- %"), api.OK)
	got, e = piece.Append(made(), made("4 1/0"))
	wants(t, "Append to nothing", got, e, made("4 1/0"), api.OK)
	got, e = piece.Append(made("4 1/0"), made())
	wants(t, "Append nothing", got, e, made("4 1/0"), api.OK)
	got, e = piece.Append(made(), made())
	wants(t, "Append nothing to nothing", got, e, made(), api.OK)
}

// P2.12: the errors and their order.
func TestAppendErrors(t *testing.T) {
	good, other := made("4 1/0"), made("4 1/0")
	other.Instrument.Courses[5].Octave = false
	steps := made("4 1/0")
	steps.Instrument.Steps[7] = 9
	for _, p := range []api.Piece{other, steps} {
		for _, pair := range [][2]api.Piece{{good, p}, {p, good}} {
			got, e := piece.Append(pair[0], pair[1])
			wants(t, "Append of different instruments", got, e, api.Piece{}, api.ErrInstrument)
		}
	}
	half := func(count int) api.Piece {
		return api.Piece{Instrument: standard("lute6"), Events: slices.Repeat(eventsOf([]string{"4 1/0"}), count)}
	}
	got, e := piece.Append(half(200), half(200))
	wants(t, "Append 200 to 200", got, e, half(400), api.OK)
	got, e = piece.Append(half(200), half(201))
	wants(t, "Append 201 to 200", got, e, api.Piece{}, api.ErrMany)
	got, e = piece.Append(half(400), half(1))
	wants(t, "Append 1 to 400", got, e, api.Piece{}, api.ErrMany)
	many := half(400)
	many.Instrument = other.Instrument
	got, e = piece.Append(many, half(1))
	wants(t, "Append too many of different instruments", got, e, api.Piece{}, api.ErrInstrument)
	for name, b := range broken() {
		got, e := piece.Append(good, b.p)
		wants(t, "Append "+name, got, e, api.Piece{}, b.e)
		for other, c := range broken() {
			got, e := piece.Append(b.p, c.p)
			wants(t, "Append "+other+" to "+name, got, e, api.Piece{}, b.e)
		}
		got, e = piece.Append(b.p, many)
		wants(t, "Append to "+name, got, e, api.Piece{}, b.e)
	}
}
