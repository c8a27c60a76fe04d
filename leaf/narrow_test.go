package leaf_test

import (
	"math/rand/v2"
	"testing"

	"theorbo/api"
	"theorbo/leaf"
	"theorbo/piece"
)

// P10.4: what each of the rules takes away.
func TestNarrow(t *testing.T) {
	finger := api.Hand{Low: []int{0}, High: []int{0}, Barre: []bool{false}, Top: 5, Jump: 1}
	for _, c := range []struct {
		name, columns string
		r             api.Rules
		want          string
	}{
		{"nothing", "", plainRules(), ""},
		{"no rule that matters", ". 3/4 0/1 -/5; |~ 3 - -", plainRules(), ". 3/4 0/1 -/5; |~ 3 - -"},
		{"a measure that only one sign fills", ". 4 0 -; | 3/4/5 0 -; . 3/4/5 0 -; | 4 0 -", measured(72), ". 4 0 -; | 4/5 0 -; . 4/5 0 -; | 4 0 -"},
		{"a last measure that may be short", ". 3/4/5 0 -; | 3/4/5 0 -; . 3/4/5 0 -", measured(72), ". 4/5 0 -; | 4/5 0 -; . 4/5 0 -"},
		{"discords", ". 4 0/1/2/3 0/5; . 4 - 1/2", concords(), ". 4 0/2/3 0/5; . 4 - 1/2"},
		{"what a hand reaches", ". 4 1 -; . 4 0/1/2/3/4/5 -/1; . 4 0/5 -", api.Rules{Hand: finger}, ". 4 1 -; . 4 0/1/2 -/1; . 4 0/5 -"},
		{"what a hand reaches on its way", ". 4 1 -; . 4 1/2/3 -; . 4 1/2/3 -; . 4 4 -", api.Rules{Hand: finger}, ". 4 1 -; . 4 2 -; . 4 3 -; . 4 4 -"},
		{"a hand that rests in between", ". 4 1 -; . 4 0/2/3 -; . 4 4 -", api.Rules{Hand: finger}, ". 4 1 -; . 4 0 -; . 4 4 -"},
		{"fingers that stay in a tie", ". 4 1 -/1/2; ~ 4 - -; . 4 1 -/2", api.Rules{Hand: finger}, ". 4 1 -; ~ 4 - -; . 4 1 -"},
	} {
		f, e := leaf.Narrow(made(pair, c.columns), c.r)
		wants(t, "Narrow of "+c.name, shown(f), e, c.want)
	}
	for _, c := range []problem{
		{made(pair, ". 4 0/1 2/3; . 3 0 -"), measured(24)},
		{made(pair, ". 4 0 0; . 4 1/2 4/5"), api.Rules{Hand: finger}},
		{made(pair, ". 4 0 3; . 4 0 -"), concords()},
	} {
		if f, e := leaf.Narrow(c.f, c.r); e != api.ErrNoReading || !isNothing(f) {
			t.Errorf("Narrow of %v = %s, %d", c, shown(f), e)
		}
	}
}

// P10.4: open strings that ring on can be in the way of a barre, until a rest or another note on their course.
func TestRinging(t *testing.T) {
	const trio = "G4/5 D4/5 A3/5 : 1 2 3 4 5"
	barre := api.Rules{Hand: api.Hand{Low: []int{0}, High: []int{0}, Barre: []bool{true}, Top: 5, Jump: 5}}
	for _, c := range []struct {
		columns string
		count   int
	}{
		{". 4 2 - 2", 1},
		{". 4 2 0 2", 0},
		{". 4 2 1 2", 0},
		{". 4 2 2 2", 1},
		{". 4 - 0 -; . 4 2 - 2", 0},
		{". 4 - 0 -; ~ 4 - - -; . 4 0 - -; . 4 2 - 2", 0},
		{". 4 - 0 -; . 4 - - -; . 4 2 - 2", 1},
		{". 4 - 0 -; . 4 - - -; ~ 4 - - -; . 4 2 - 2", 1},
		{". 4 - 0 -; . 4 - 1 -; . 4 2 - 2", 1},
		{". 4 - 0 -; . 4 2 2 2", 1},
		{". 4 - 0 -; . 4 - 1 -; ~ 4 - - -; . 4 2 - 2; ~ 4 - - -; . 4 - 0 -; ~ 4 - - -", 1},
		{". 4 0 - 0; . 4 2 - 2", 1},
		{". 4 0 1 0; . 4 2 - 2", 1},
	} {
		f := made(trio, c.columns)
		n, e := leaf.Count(f, barre)
		wants(t, "Count of "+c.columns, n, e, c.count)
		at, e := leaf.Stuck(f, barre)
		if c.count > 0 && (at != 0 || e != api.ErrNone) || c.count == 0 && (at != len(f.Columns)-1 || e != api.OK) {
			t.Errorf("Stuck of %s = %d, %d", c.columns, at, e)
		}
	}
}

// P10.4: the fingers that stay in a tie stay on their frets, but the hand may move under them.
func TestHeld(t *testing.T) {
	// Of the narrow hand each finger reaches one fret, of the wide one two. A chord of the frets n and n + 1, or n and n + 2, has the position n alone.
	narrow := api.Hand{Low: []int{0, 1}, High: []int{0, 1}, Barre: []bool{false, false}, Top: 9}
	wide := api.Hand{Low: []int{0, 1}, High: []int{1, 2}, Barre: []bool{false, false}, Top: 9}
	for _, c := range []struct {
		name, columns string
		h             api.Hand
		jump, count   int
	}{
		{"no finger is exchanged", ". 4 6 7; . 4 5 -; ~ 4 - -; . 4 3 4", narrow, 1, 0},
		{"a finger may be exchanged if it plays again", ". 4 6 7; . 4 5 -; . 4 5 -; . 4 3 4", narrow, 1, 1},
		{"both fingers stay", ". 4 6 7; ~ 4 - -; . 4 5 6; . 4 4 5", narrow, 1, 1},
		{"the finger 2 of both positions", ". 4 1 3; . 4 4 -; ~ 4 - -; . 4 4 6", wide, 1, 1},
		{"no time to move", ". 4 1 3; . 4 4 -; . 4 4 6", wide, 1, 0},
		{"a hand that does not move", ". 4 1 3; . 4 3 -; ~ 4 - -; ~ 4 - -; . 4 2 4", wide, 0, 0},
		{"the finger keeps the hand back in a second tie", ". 4 1 3; . 4 4 -; ~ 4 - -; ~ 4 - -; . 4 5 7", wide, 1, 0},
		{"two ties", ". 4 1 3; . 4 4 -; ~ 4 - -; ~ 4 - -; . 4 4 6", wide, 1, 1},
		{"a leap in a tie", ". 4 1 3; . 4 5 -; ~ 4 - -; . 4 6 8", wide, 2, 1},
		{"no leap in a tie", ". 4 1 3; . 4 5 -; . 4 6 8", wide, 2, 0},
		{"nothing is held", ". 4 1 2; . 4 - 0; ~ 4 - -; . 4 9 -", narrow, 0, 1},
		{"a rest, and a tie", ". 4 1 2; . 4 - -; ~ 4 - -; . 4 9 -", narrow, 0, 1},
	} {
		k := problem{made(gut(2), c.columns), api.Rules{Hand: c.h}}
		k.r.Hand.Jump = c.jump
		n, e := leaf.Count(k.f, k.r)
		wants(t, "Count of "+c.name, n, e, c.count)
		if o := searched(k.f, k.r); o.count != c.count {
			t.Errorf("the count of %v is %v", c.name, o)
		}
	}
}

// P10.4: hands that must find their way through ties, chords and rests.
func TestHands(t *testing.T) {
	r := rand.New(rand.NewPCG(43, 44))
	stuck, free := 0, 0
	for range 800 {
		f := api.Leaf{Instrument: strung(gut(3))}
		columns := 2 + r.IntN(6)
		base := 1 + r.IntN(6)
		for number := range columns {
			c := columnOf(". 4 - - -")
			if c.Tie = number > 0 && r.IntN(3) == 0; !c.Tie {
				for i := range c.Cells {
					c.Cells[i] = anyCell(r, 3, 2)
					for j, n := range c.Cells[i] {
						if n > 0 {
							c.Cells[i][j] += base
						}
					}
				}
				base = max(0, base+r.IntN(5)-2)
			}
			f.Columns = append(f.Columns, c)
		}
		h := api.Hand{Low: []int{0, 1}, High: []int{r.IntN(2), 1 + r.IntN(2)}, Barre: []bool{r.IntN(2) == 0, false}, Top: 9, Jump: r.IntN(3)}
		if r.IntN(2) == 0 {
			h.Low, h.High, h.Barre = append(h.Low, 2), append(h.High, 2+r.IntN(2)), append(h.Barre, r.IntN(3) == 0)
		}
		k := problem{f, api.Rules{Hand: h}}
		o := searched(k.f, k.r)
		at, e := faultOf(t, k)
		if e != o.e || e == api.ErrNoReading && at != o.at {
			t.Fatalf("the error of %v is %d at %d; it should be %v", k, e, at, o)
		}
		if e != api.OK {
			stuck++
			continue
		}
		free++
		n, e := leaf.Count(k.f, k.r)
		wants(t, "Count of "+k.String(), n, e, o.count)
	}
	if stuck < 100 || free < 300 {
		t.Errorf("%d hands are stuck, %d are not", stuck, free)
	}
}

// P10.4: Narrow and Stuck, against all completions.
func TestNarrowAny(t *testing.T) {
	narrower, same, none := 0, 0, 0
	for _, k := range problems(12, 4000) {
		all := allowedOf(k.f, k.r)
		f, e := leaf.Narrow(k.f, k.r)
		at, fault := leaf.Stuck(k.f, k.r)
		if len(all) == 0 {
			none++
			want := searched(k.f, k.r).at
			if e != api.ErrNoReading || !isNothing(f) || fault != api.OK || at != want {
				t.Fatalf("Narrow of %v = %s, %d; Stuck is %d, %d and should be %d", k, shown(f), e, at, fault, want)
			}
			continue
		}
		want := narrowedOf(k.f, all)
		if e != api.OK || !sameLeaf(f, want) {
			t.Fatalf("Narrow of %v = %s, %d; it should be %s", k, shown(f), e, shown(want))
		}
		if fault != api.ErrNone || at != 0 {
			t.Fatalf("Stuck of %v = %d, %d", k, at, fault)
		}
		if sameLeaf(f, k.f) {
			same++
		} else {
			narrower++
		}
	}
	if narrower < 300 || same < 500 || none < 500 {
		t.Errorf("%d are narrower, %d are the same, %d have no completions", narrower, same, none)
	}
}

// P10.4: Stuck at the first, a middle and the last column.
func TestStuck(t *testing.T) {
	finger := api.Rules{Hand: api.Hand{Low: []int{0}, High: []int{0}, Barre: []bool{false}, Top: 3, Jump: 3}}
	for _, c := range []struct {
		columns string
		r       api.Rules
		at      int
	}{
		{". 1/2 0 -; . 4 0 -", measured(96), 0},
		{". 3 0 -; . 4 0 -; | 5 0 -", measured(96), 1},
		{". 3 0 -; | 4/5 0 -; | 3/4 0 -; . 3 0 -", measured(96), 2},
		{". 3 0 -; | 4/5 0 -; . 4/5 0 -; . 3 0 -", measured(96), 3},
		{". 3 0/1 3; . 3 0 1/3", concords(), -1},
		{". 3 0/1 3; . 3 0 0/3", concords(), 1},
		{". 3 0/1 0; . 3 0 1/3", concords(), 0},
		{". 3 4/5 0", finger, 0},
		{". 3 3 0; . 3 1 2; . 3 2 1", finger, 1},
		{". 3 3 0; ~ 3 - -; . 3 0 -; . 3 2/3 -/2", finger, -1},
		{". 3 3 0; ~ 3 - -; . 3 0 -; . 3 2/3 1", finger, 3},
		// The measures, the concords and the hand are looked at column by column.
		{". 3 4/5 0; . 3 0 0; . 3 0 0", api.Rules{Hand: finger.Hand, Measure: 96}, 0},
		{". 3 3 0; . 3 4 0", api.Rules{Hand: finger.Hand, Measure: 96}, 1},
	} {
		at, e := leaf.Stuck(made(pair, c.columns), c.r)
		if c.at < 0 && (at != 0 || e != api.ErrNone) || c.at >= 0 && (at != c.at || e != api.OK) {
			t.Errorf("Stuck of %s = %d, %d; it should be %d", c.columns, at, e, c.at)
		}
	}
	if at, e := leaf.Stuck(made(pair, ""), plainRules()); at != 0 || e != api.ErrNone {
		t.Errorf("Stuck of no columns = %d, %d", at, e)
	}
}

// P10.4: Nearest, with differences of all kinds, and those that do not count.
func TestNearest(t *testing.T) {
	f := made(pair, ". 3/4. 0/2 -/3; ~ 4/5 - -; | 4/5 -/1/2 -/5")
	for _, c := range []struct {
		name        string
		r           api.Rules
		piece, want string
		differences int
	}{
		{"a completion", plainRules(), ". 4. 1.2 2.3; . 5 ~; | 4 1.2", ". 4. 1.2 2.3; . 5 ~; | 4 1.2", 0},
		{"signs in force, marks and holds", plainRules(), ". 3 1.2:1:2:2 2.3:2:0:0; . 5 ~; | 0 2.5", ". 3 1.2 2.3; . 5 ~; | 5 2.5", 0},
		{"other bar lines and ties", plainRules(), "| 3 1.2; | 5; . 4 1.1", ". 3 1.2; . 5 ~; | 4 1.1", 0},
		{"all signs", plainRules(), ". 1 1.0; . 0 ~; | 0 1.2", ". 3 1.0; . 4 ~; | 4 1.2", 3},
		{"notes for a tie", plainRules(), ". 3 1.0; . 4 1.5 2.5; | 4 1.2", ". 3 1.0; . 4 ~; | 4 1.2", 2},
		{"another fret, and none", plainRules(), ". 3 1.1 2.3; . 4; | 4 1.0 2.4", ". 3 1.0 2.3; . 4 ~; | 4", 3},
		{"a missing note", plainRules(), ". 3 2.3; . 4; | 4", ". 3 1.0 2.3; . 4 ~; | 4", 1},
		{"a rule that costs a note", concords(), ". 3 1.0 2.3; . 4 ~; | 4", ". 3 1.0; . 4 ~; | 4", 1},
		{"a rule that costs any of two notes", concords(), ". 3 1.0 2.3; . 4 ~; | 4 1.1 2.5", ". 3 1.0; . 4 ~; | 4 2.5", 2},
		{"a measure that costs a sign", measured(132), ". 3 1.0; . 4 ~; | 4", ". 3 1.0; . 5 ~; | 4", 1},
		{"a measure that costs any of two signs", measured(119), ". 4. 1.0; . 4 ~; | 4", ". 4. 1.0; . 5 ~; | 4", 1},
	} {
		near, differences, e := leaf.Nearest(f, c.r, pieceOf(pair, c.piece))
		if e != api.OK || differences != c.differences || !piece.Same(near, pieceOf(pair, c.want)) {
			t.Errorf("Nearest of %s = %v, %d, %d; it should be %s, %d", c.name, near, differences, e, c.want, c.differences)
		}
	}
	near, differences, e := leaf.Nearest(made(pair, ""), concords(), pieceOf(pair, ""))
	if e != api.OK || differences != 0 || !piece.Same(near, pieceOf(pair, "")) {
		t.Errorf("Nearest of nothing = %v, %d, %d", near, differences, e)
	}
}

// P10.4: Nearest, against all completions; of several the first one is meant.
func TestNearestAny(t *testing.T) {
	r := rand.New(rand.NewPCG(13, 14))
	exact, apart, several := 0, 0, 0
	for _, k := range problems(15, 4000) {
		p := anyPiece(r, k.f)
		if r.IntN(2) == 0 {
			p = anyPiece(r, anyShapeOf(r, k.f))
		}
		near, differences, e := leaf.Nearest(k.f, k.r, p)
		var want *api.Piece
		ties := 0
		for _, q := range allowedOf(k.f, k.r) {
			switch {
			case want == nil || differencesOf(q, p) < differencesOf(*want, p):
				want, ties = &q, 0
			case differencesOf(q, p) == differencesOf(*want, p):
				ties++
			}
		}
		if want == nil {
			if e != api.ErrNoReading || differences != 0 || !noPiece(near) {
				t.Fatalf("Nearest of %v = %v, %d, %d", k, near, differences, e)
			}
			continue
		}
		if e != api.OK || !piece.Same(near, *want) || differences != differencesOf(*want, p) {
			t.Fatalf("Nearest of %v to %v = %v, %d, %d; it should be %v", k, p, near, differences, e, *want)
		}
		if differences == 0 {
			exact++
		} else {
			apart++
		}
		if ties > 0 {
			several++
		}
	}
	if exact < 200 || apart < 500 || several < 200 {
		t.Errorf("%d have no differences, %d have some, %d are one of several", exact, apart, several)
	}
}

// anyShapeOf returns a leaf with the same instrument and as many columns as another one.
func anyShapeOf(r *rand.Rand, f api.Leaf) api.Leaf {
	other := api.Leaf{Instrument: f.Instrument}
	for number := range f.Columns {
		other.Columns = append(other.Columns, anyColumn(r, f.Instrument, number > 0 && r.IntN(4) == 0, 2))
	}
	return other
}

// P10.4: the errors of Nearest, in order.
func TestNearestErrors(t *testing.T) {
	f := example()
	for _, c := range []struct {
		name, in, piece string
		r               api.Rules
		want            api.Errno
	}{
		{"an event too few", pair, ". 3 1.0", plainRules(), api.ErrReading},
		{"an event too many", pair, ". 3 1.0; | 4 1.1; . 4", plainRules(), api.ErrReading},
		{"another tuning", "G4/5 C4/5 : 1 2 3 4 5", ". 3 1.0; | 4 1.1", plainRules(), api.ErrReading},
		{"other frets", "G4/5 D4/4 : 1 2 3 4 5", ". 3 1.0; | 4 1.1", plainRules(), api.ErrReading},
		{"another instrument, and no completion", "G4/5 C4/5 : 1 2 3 4 5", ". 3 1.0; | 4 1.1", measured(95), api.ErrReading},
		{"no completion", pair, ". 3 1.0; | 4 1.1", measured(95), api.ErrNoReading},
		{"bad rules", pair, ". 3 1.0", measured(-1), api.ErrArg},
	} {
		near, differences, e := leaf.Nearest(f, c.r, pieceOf(c.in, c.piece))
		if e != c.want || differences != 0 || !noPiece(near) {
			t.Errorf("Nearest with %s = %v, %d, %d; it should be %d", c.name, near, differences, e, c.want)
		}
	}
	for _, b := range brokenPieces() {
		b.p.Events = append(b.p.Events, b.p.Events[0]) // for the number of columns is looked at later
		if piece.Check(b.p) != b.e {
			continue
		}
		near, differences, e := leaf.Nearest(f, plainRules(), b.p)
		if e != b.e || differences != 0 || !noPiece(near) {
			t.Errorf("Nearest of a bad piece = %v, %d, %d; it should be %d", near, differences, e, b.e)
		}
	}
}
