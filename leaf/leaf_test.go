package leaf_test

import (
	"math/rand/v2"
	"slices"
	"testing"

	"theorbo/api"
	"theorbo/hand"
	"theorbo/leaf"
	"theorbo/piece"
)

// P10.1: Check, with all that makes a column valid, or not.
func TestCheck(t *testing.T) {
	const lone = "G4/5 D4/0 : 1 2 3 4 5 6"
	for _, c := range []struct {
		name string
		f    api.Leaf
		want api.Errno
	}{
		{"the example", example(), api.OK},
		{"no columns", made(pair, ""), api.OK},
		{"a tie", made(pair, ". 3 0 0; ~ 3/4 - -; |~ 5 - -"), api.OK},
		{"a tie first", made(pair, "~ 3 - -; . 3 0 0"), api.ErrLeaf},
		{"a tie first, with a bar line", made(pair, "|~ 3 - -"), api.ErrLeaf},
		{"a bar line first", made(pair, "| 3 0 0"), api.OK},
		{"a tie with a note", made(pair, ". 3 0 0; ~ 3 - 0"), api.ErrLeaf},
		{"a tie with a possible note", made(pair, ". 3 0 0; ~ 3 -/2 -"), api.ErrLeaf},
		{"all signs", made(pair, ". 1/1t/1./2/2t/2./3/3t/3./4/4t/4./5/5t/5./6/6t/6./7/7t/7. 0 0"), api.OK},
		{"no sign", api.Leaf{Instrument: strung(pair), Columns: []api.Column{{Cells: [][]int{{0}, {0}}}}}, api.ErrLeaf},
		{"an unwritten sign", made(pair, ". 0 0 0"), api.ErrLeaf},
		{"an unwritten sign with a dot", made(pair, ". 0. 0 0"), api.ErrLeaf},
		{"a sign that is too short", made(pair, ". 7/8 0 0"), api.ErrLeaf},
		{"a sign below 0", made(pair, ". -1 0 0"), api.ErrLeaf},
		{"a dotted triplet", made(pair, ". 4.t 0 0"), api.ErrLeaf},
		{"signs in descending order", made(pair, ". 4/3 0 0"), api.ErrLeaf},
		{"equal signs", made(pair, ". 4/4 0 0"), api.ErrLeaf},
		{"a dot before none", made(pair, ". 4./4 0 0"), api.ErrLeaf},
		{"a triplet before none", made(pair, ". 4t/4 0 0"), api.ErrLeaf},
		{"a dot before a triplet", made(pair, ". 4./4t 0 0"), api.ErrLeaf},
		{"a triplet before a dot", made(pair, ". 4t/4. 0 0"), api.OK},
		{"a dot before the next value", made(pair, ". 4./5 0 0"), api.OK},
		{"a cell too few", made(pair, ". 4 0"), api.ErrLeaf},
		{"a cell too many", made(pair, ". 4 0 0 0"), api.ErrLeaf},
		{"no cells", made(pair, ". 4"), api.ErrLeaf},
		{"an empty cell", api.Leaf{Instrument: strung(pair), Columns: []api.Column{{Signs: []api.Sign{{Value: 4}}, Cells: [][]int{{0}, {}}}}}, api.ErrLeaf},
		{"all numbers", made(pair, ". 4 -/0/1/2/3/4/5 -/0/1/2/3/4/5"), api.OK},
		{"a fret too high", made(pair, ". 4 0 5/6"), api.ErrLeaf},
		{"a number too low", api.Leaf{Instrument: strung(pair), Columns: []api.Column{{Signs: []api.Sign{{Value: 4}}, Cells: [][]int{{-2, 0}, {0}}}}}, api.ErrLeaf},
		{"numbers in descending order", made(pair, ". 4 2/1 0"), api.ErrLeaf},
		{"no note behind a fret", made(pair, ". 4 0/- 0"), api.ErrLeaf},
		{"equal numbers", made(pair, ". 4 0/1/1 0"), api.ErrLeaf},
		{"a diapason", made(lone, ". 4 5 -/0"), api.OK},
		{"a fret on a diapason", made(lone, ". 4 5 0/1"), api.ErrLeaf},
		{"a fret that the course lacks", made(lone, ". 4 6 0"), api.ErrLeaf},
		{"a bad column behind good ones", made(pair, ". 4 0 0; . 4 0 0; . 4 0 0; . 4 0 7"), api.ErrLeaf},
		{"400 columns", repeated(made(pair, ". 4 0 0"), 400), api.OK},
		{"401 columns", repeated(made(pair, ". 4 0 0"), 401), api.ErrMany},
		{"401 bad columns", repeated(made(pair, "~ 4 0 6"), 401), api.ErrMany},
	} {
		if e := leaf.Check(c.f); e != c.want {
			t.Errorf("Check of %s: %d; it should be %d", c.name, e, c.want)
		}
	}
	for _, b := range brokenLeaves() {
		b.f.Columns = append(b.f.Columns, columnOf("~ 0 9 9"))
		want := b.e
		if e := leaf.Check(b.f); e != want {
			t.Errorf("Check of %s: %d; it should be %d", b.name, e, want)
		}
	}
}

// repeated returns a leaf that has its columns so many times.
func repeated(f api.Leaf, times int) api.Leaf {
	f.Columns = slices.Repeat(f.Columns, times)
	return f
}

// P10.1: every value at every place that Check looks at.
func TestCheckAnyNumber(t *testing.T) {
	for _, n := range hostile {
		f := example()
		f.Columns[1].Signs[0].Value = n
		if e := leaf.Check(f); (e == api.OK) != (n >= 1 && n <= 7) || e != api.OK && e != api.ErrLeaf {
			t.Errorf("Check of the value %d: %d", n, e)
		}
		f = example()
		f.Columns[0].Cells[0][0] = n
		if e := leaf.Check(f); (e == api.OK) != (n >= -1 && n <= 5) || e != api.OK && e != api.ErrLeaf {
			t.Errorf("Check of the number %d: %d", n, e)
		}
		f = example()
		f.Columns[0].Cells[1][1] = n
		if e := leaf.Check(f); (e == api.OK) != (n >= 0 && n <= 5) || e != api.OK && e != api.ErrLeaf {
			t.Errorf("Check of - and the number %d: %d", n, e)
		}
		r := measured(n)
		want := api.OK
		if n < 0 || n > 4608 {
			want = api.ErrArg
		}
		if e := leaf.CheckRules(r); e != want {
			t.Errorf("CheckRules of the measure %d: %d; it should be %d", n, e, want)
		}
		r.Hand.Top = 0
		if e := leaf.CheckRules(r); e != api.ErrHand {
			t.Errorf("CheckRules of the measure %d and a bad hand: %d", n, e)
		}
	}
	if e := leaf.CheckRules(api.Rules{}); e != api.ErrHand {
		t.Errorf("CheckRules of no hand: %d", e)
	}
	if e := leaf.CheckRules(api.Rules{Hand: hand.Standard(), Measure: 4608, Concord: true}); e != api.OK {
		t.Errorf("CheckRules of good rules: %d", e)
	}
}

// P10.1: Of keeps the signs in force, the places, bar lines and ties, and nothing else.
func TestOf(t *testing.T) {
	for _, c := range []struct{ piece, want string }{
		{"", ""},
		{"| 3 1.0 2.3", "| 3 0 3"},
		{". 4. 1.2:1:4:1 2.1:3:0:0; . 0 ~; | 0; . 5t 2.0; |  0 ~", ". 4. 2 1; ~ 4. - -; | 4. - -; . 5t - 0; |~ 5t - -"},
		{". 7. 2.5; . 7. 2.5; . 0 1.5", ". 7. - 5; . 7. - 5; . 7. 5 -"},
	} {
		f, e := leaf.Of(pieceOf(pair, c.piece))
		if want := made(pair, c.want); e != api.OK || !sameLeaf(f, want) {
			t.Errorf("Of(%s) = %s, %d; it should be %s", c.piece, shown(f), e, c.want)
		}
	}
	for _, b := range brokenPieces() {
		if f, e := leaf.Of(b.p); e != b.e || !isNothing(f) {
			t.Errorf("Of a bad piece = %v, %d; it should be %d", f, e, b.e)
		}
	}
}

// P10.1: Piece returns the completion, if there is one alone.
func TestPiece(t *testing.T) {
	for _, c := range []struct {
		leaf, want string
		e          api.Errno
	}{
		{"", "", api.OK},
		{". 3 0 3; |~ 4t - -; . 5. - -; | 1 - 5", ". 3 1.0 2.3; | 4t ~; . 5.; | 1 2.5", api.OK},
		{". 3/4 0 3", "", api.ErrReading},
		{". 3 0 -/0", "", api.ErrReading},
		{". 3 0 0; . 3 0 0; . 3 -/0/1/2/3/4/5 -/0/1/2/3/4/5", "", api.ErrReading},
	} {
		p, e := leaf.Piece(made(pair, c.leaf))
		if e != c.e || e == api.OK && !piece.Same(p, pieceOf(pair, c.want)) || e != api.OK && !noPiece(p) {
			t.Errorf("Piece(%s) = %v, %d; it should be %s, %d", c.leaf, p, e, c.want, c.e)
		}
	}
	// A product of the numbers of readings would overflow.
	var wide api.Leaf
	all := made("G4/18 : 1 2 3 4 5 6 7 8 9 10 11 12 13 14 15 16 17 18", ". 1/1t/1./2/2t/2./3/3t/3./4/4t/4./5/5t/5. -/0/1/2/3/4/5/6/7/8/9/10/11/12/13/14/15/16/17/18")
	wide.Instrument = all.Instrument
	wide.Instrument.Courses = slices.Repeat(wide.Instrument.Courses, 14)
	all.Columns[0].Cells = slices.Repeat(all.Columns[0].Cells, 14)
	wide.Columns = all.Columns
	if p, e := leaf.Piece(wide); e != api.ErrReading || !noPiece(p) {
		t.Errorf("Piece of 15 * 20^14 readings = %v, %d", p, e)
	}
	for _, b := range brokenLeaves() {
		if p, e := leaf.Piece(b.f); e != b.e || !noPiece(p) {
			t.Errorf("Piece of %s = %v, %d; it should be %d", b.name, p, e, b.e)
		}
	}
}

// P10.1: Reads.
func TestReads(t *testing.T) {
	f := made(pair, ". 3/4. 0 -/3; ~ 4 - -; | 4/5 1/2 -")
	for _, c := range []struct {
		name, in, piece string
		want            bool
	}{
		{"the first completion", pair, ". 3 1.0; . 4 ~; | 4 1.1", true},
		{"the last completion", pair, ". 4. 1.0 2.3; . 4 ~; | 5 1.2", true},
		{"a sign in force", pair, ". 4. 1.0 2.3; . 4 ~; | 0 1.2", true},
		{"marks and holds", pair, ". 4. 1.0:1:2:0 2.3:3:4:2; . 4 ~; | 0 1.2:2:1:0", true},
		{"another sign", pair, ". 4 1.0; . 4 ~; | 4 1.1", false},
		{"another sign in force", pair, ". 3 1.0; . 0 ~; | 4 1.1", false},
		{"another fret", pair, ". 3 1.0 2.2; . 4 ~; | 4 1.1", false},
		{"a note too many", pair, ". 3 1.0; . 4 ~; | 4 1.1 2.0", false},
		{"a note too few", pair, ". 3 2.3; . 4 ~; | 4 1.1", false},
		{"a rest for a tie", pair, ". 3 1.0; . 4; | 4 1.1", false},
		{"a bar line too many", pair, "| 3 1.0; . 4 ~; | 4 1.1", false},
		{"a bar line too few", pair, ". 3 1.0; . 4 ~; . 4 1.1", false},
		{"an event too few", pair, ". 3 1.0; . 4 ~", false},
		{"an event too many", pair, ". 3 1.0; . 4 ~; | 4 1.1; . 4", false},
		{"no events", pair, "", false},
		{"another tuning", "G4/5 C4/5 : 1 2 3 4 5", ". 3 1.0; . 4 ~; | 4 1.1", false},
		{"other steps", "G4/5 D4/5 : 1 2 3 4 6", ". 3 1.0; . 4 ~; | 4 1.1", false},
		{"octaves", "G4/5+ D4/5 : 1 2 3 4 5", ". 3 1.0; . 4 ~; | 4 1.1", false},
		{"another course", pair + " 6", ". 3 1.0; . 4 ~; | 4 1.1", false},
	} {
		is, e := leaf.Reads(f, pieceOf(c.in, c.piece))
		wants(t, "Reads of "+c.name, is, e, c.want)
	}
	is, e := leaf.Reads(made(pair, ""), pieceOf(pair, ""))
	wants(t, "Reads of nothing", is, e, true)
	for _, b := range brokenPieces() {
		if is, e := leaf.Reads(f, b.p); e != b.e || is {
			t.Errorf("Reads of a bad piece = %v, %d; it should be %d", is, e, b.e)
		}
		for _, l := range brokenLeaves() {
			if is, e := leaf.Reads(l.f, b.p); e != l.e || is {
				t.Errorf("Reads of %s, and a bad piece = %v, %d; it should be %d", l.name, is, e, l.e)
			}
		}
	}
}

// P10.1: a piece is read exactly if its completion is one of all.
func TestReadsAny(t *testing.T) {
	r := rand.New(rand.NewPCG(1, 2))
	read, not := 0, 0
	for range 3000 {
		f := anyLeaf(r, r.IntN(5), 2)
		p := anyPiece(r, f)
		plain, _ := piece.Plain(p)
		bare, _ := piece.Bare(plain)
		want := slices.ContainsFunc(completionsOf(f), func(q api.Piece) bool { return piece.Same(bare, q) })
		is, e := leaf.Reads(f, p)
		wants(t, "Reads of "+shown(f), is, e, want)
		if want {
			read++
		} else {
			not++
		}
	}
	if read < 500 || not < 500 {
		t.Errorf("%d pieces are read, %d are not", read, not)
	}
}
