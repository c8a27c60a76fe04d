package leaf_test

import (
	"fmt"
	"math/rand/v2"
	"testing"

	"theorbo/api"
	"theorbo/hand"
	"theorbo/leaf"
	"theorbo/piece"
)

// P10.3: Allowed of pieces that are or are not completions, and that a rule does not allow.
func TestAllowed(t *testing.T) {
	f := made(pair, ". 3/4 0 -/1/3/5; ~ 4 - -; | 4/5 1/2 -/3; . 4 0 -/4")
	both := api.Rules{Hand: hand.Standard(), Measure: 96, Concord: true}
	for _, c := range []struct {
		name  string
		r     api.Rules
		piece string
		want  api.Errno
	}{
		{"a completion", plainRules(), ". 4 1.0; . 4 ~; | 4 1.1; . 4 1.0", api.OK},
		{"signs in force, marks and a hold", both, ". 4 1.0:1:1:0 2.5:1:2:2; . 0 ~; | 0 1.1; . 0 1.0", api.OK},
		{"none", plainRules(), ". 4 1.0; . 4 ~; | 4 1.0; . 4 1.0", api.ErrReading},
		{"none, for several reasons", measured(12), ". 4 1.0; . 4 ~; . 4 1.1; . 4 1.0", api.ErrReading},
		{"a long measure", measured(96), ". 3 1.0; . 4 ~; | 4 1.1; . 4 1.0", api.ErrLength},
		{"a long last measure", measured(72), ". 4 1.0; . 4 ~; | 4 1.1; . 4 1.0", api.ErrLength},
		{"short measures at both ends", measured(97), ". 4 1.0; . 4 ~; | 4 1.1; . 4 1.0", api.OK},
		{"a discord", concords(), ". 4 1.0 2.3; . 4 ~; | 4 1.1; . 4 1.0", api.ErrDiscord},
		{"a discord that is allowed", plainRules(), ". 4 1.0 2.3; . 4 ~; | 4 1.1; . 4 1.0", api.OK},
		{"a discord in the last event", concords(), ". 4 1.0 2.5; . 4 ~; | 4 1.1; . 4 1.0 2.4", api.ErrDiscord},
		{"a long measure and a discord", both, ". 3 1.0 2.3; . 4 ~; | 4 1.1; . 4 1.0", api.ErrLength},
		{"a discord and no grip", api.Rules{Hand: api.Hand{Low: []int{0}, High: []int{0}, Barre: []bool{false}, Top: 2}, Concord: true}, ". 4 1.0 2.3; . 4 ~; | 4 1.1; . 4 1.0", api.ErrDiscord},
		{"no grip", api.Rules{Hand: api.Hand{Low: []int{0}, High: []int{0}, Barre: []bool{false}, Top: 2}}, ". 4 1.0 2.3; . 4 ~; | 4 1.1; . 4 1.0", api.ErrStuck},
		{"no step", api.Rules{Hand: api.Hand{Low: []int{0}, High: []int{0}, Barre: []bool{false}, Top: 9, Jump: 3}}, ". 4 1.0 2.5; . 4 ~; | 4 1.1; . 4 1.0", api.ErrStuck},
		{"a step", api.Rules{Hand: api.Hand{Low: []int{0}, High: []int{0}, Barre: []bool{false}, Top: 9, Jump: 4}}, ". 4 1.0 2.5; . 4 ~; | 4 1.1; . 4 1.0", api.OK},
		{"a hold that the hand could not play", api.Rules{Hand: api.Hand{Low: []int{0}, High: []int{0}, Barre: []bool{false}, Top: 9, Jump: 4}}, ". 4 1.0 2.5:0:0:2; . 4 ~; | 4 1.1; . 4 1.0", api.OK},
	} {
		p := pieceOf(pair, c.piece)
		if e := piece.Check(p); e != api.OK {
			t.Fatalf("the piece of %s is not valid: %d", c.name, e)
		}
		if e := leaf.Allowed(f, c.r, p); e != c.want {
			t.Errorf("Allowed of %s: %d; it should be %d", c.name, e, c.want)
		}
	}
	if e := leaf.Allowed(made(pair, ""), both, pieceOf(pair, "")); e != api.OK {
		t.Errorf("Allowed of nothing: %d", e)
	}
}

// P10.3: measures that may be shorter, and those that may not.
func TestMeasures(t *testing.T) {
	for _, c := range []struct {
		columns string
		allowed bool
	}{
		{". 3 0 -", true},
		{". 4 0 -", true},
		{". 3. 0 -", false},
		{"| 3 0 -", true},
		{". 4 0 -; . 4 0 -", true},
		{". 4 0 -; . 3 0 -", false},
		{". 4 0 -; | 3 0 -", true},
		{"| 4 0 -; | 3 0 -", true},
		{"| 4 0 -; | 4 0 -", true},
		{". 3 0 -; | 4 0 -; | 3 0 -", false},
		{". 3 0 -; | 4 0 -; . 4 0 -; | 4 0 -", true},
		{". 3 0 -; | 4 0 -; . 5 0 -; . 5 0 -; | 4 0 -", true},
		{". 3 0 -; | 4 0 -; . 5 0 -; . 5t 0 -; | 4 0 -", false},
		{". 3 0 -; | 3. 0 -; | 4 0 -", false},
		{". 5 0 -; | 3 0 -; | 3 0 -; | 3 0 -; | 5 0 -", true},
		{". 5 0 -; | 3 0 -; | 3 0 -; | 4. 0 -; | 5 0 -", false},
		{". 5 0 -; | 3 0 -; | 3 0 -; | 3 0 -; | 3. 0 -", false},
		{"| 4 0 -; |~ 4 - -; ~ 4 - -; . 5 0 -", false},
		{"| 4 0 -; |~ 4 - -; ~ 4 - -; | 5 0 -", true},
	} {
		f := made(pair, c.columns)
		p, e := leaf.Piece(f)
		if e != api.OK {
			t.Fatalf("Piece(%s): %d", c.columns, e)
		}
		want, count := api.ErrLength, 0
		if c.allowed {
			want, count = api.OK, 1
		}
		if e := leaf.Allowed(f, measured(96), p); e != want {
			t.Errorf("Allowed of %s: %d; it should be %d", c.columns, e, want)
		}
		n, e := leaf.Count(f, measured(96))
		wants(t, "Count of "+c.columns, n, e, count)
		n, e = leaf.Count(f, plainRules())
		wants(t, "Count without a measure of "+c.columns, n, e, 1)
	}
}

// P10.3: the examples of the document.
func TestExamples(t *testing.T) {
	f := example()
	l, e := leaf.List(f, plainRules(), 64)
	wants(t, "List", shownPieces(l), e, "0 -, 1 -; 0 -, 2 -; 0 3, 1 -; 0 3, 2 -")
	for most := 1; most <= 4; most++ {
		first, e := leaf.List(f, plainRules(), most)
		if e != api.OK || !samePieces(first, l[:most]) {
			t.Errorf("List with %d = %s, %d", most, shownPieces(first), e)
		}
	}
	n, e := leaf.Count(f, plainRules())
	wants(t, "Count", n, e, 4)
	n, e = leaf.Count(f, concords())
	wants(t, "Count with concords", n, e, 2)
	n, e = leaf.Count(f, measured(96))
	wants(t, "Count with a measure", n, e, 4)
	unbarred := made(pair, ". 3 0 -/3; . 4 1/2 -")
	n, e = leaf.Count(unbarred, measured(96))
	wants(t, "Count without the bar line", n, e, 0)
	at, e := leaf.Stuck(unbarred, measured(96))
	wants(t, "Stuck without the bar line", at, e, 1)
	if at, e := leaf.Stuck(f, plainRules()); at != 0 || e != api.ErrNone {
		t.Errorf("Stuck = %d, %d", at, e)
	}
	narrowed, e := leaf.Narrow(f, concords())
	wants(t, "Narrow", shown(narrowed), e, ". 3 0 -; | 4 1/2 -")
	p := pieceOf(pair, ". 3 1.0 2.3; | 4 1.2")
	near, differences, e := leaf.Nearest(f, concords(), p)
	wants(t, "Nearest", shownPieces([]api.Piece{near}), e, "0 -, 2 -")
	wants(t, "the differences", differences, e, 1)
	if e := leaf.Allowed(f, concords(), p); e != api.ErrDiscord {
		t.Errorf("Allowed with concords: %d", e)
	}
	if e := leaf.Allowed(f, plainRules(), p); e != api.OK {
		t.Errorf("Allowed: %d", e)
	}
	if p, e := leaf.Piece(f); e != api.ErrReading || !noPiece(p) {
		t.Errorf("Piece = %v, %d", p, e)
	}
}

// P10.3: the completions are pieces whose signs are written, with rests and ties, in order of signs and numbers.
func TestListed(t *testing.T) {
	f := made(pair, "| 4/4. -/1 -; ~ 5 - -; |~ 5t - -")
	l, e := leaf.List(f, plainRules(), 64)
	want := []api.Piece{
		pieceOf(pair, "| 4; . 5 ~; | 5t ~"),
		pieceOf(pair, "| 4 1.1; . 5 ~; | 5t ~"),
		pieceOf(pair, "| 4.; . 5 ~; | 5t ~"),
		pieceOf(pair, "| 4. 1.1; . 5 ~; | 5t ~"),
	}
	if e != api.OK || !samePieces(l, want) {
		t.Errorf("List = %v, %d; it should be %v", l, e, want)
	}
	none, e := leaf.List(made(pair, ""), api.Rules{Hand: hand.Standard(), Measure: 1, Concord: true}, 1)
	if e != api.OK || !samePieces(none, []api.Piece{pieceOf(pair, "")}) {
		t.Errorf("List of no columns = %v, %d", none, e)
	}
	n, e := leaf.Count(made(pair, ""), plainRules())
	wants(t, "Count of no columns", n, e, 1)
}

// problem is a leaf with rules that can be tried out.
type problem struct {
	f api.Leaf
	r api.Rules
}

func (k problem) String() string {
	return fmt.Sprintf("%v: %s, with %v", k.f.Instrument, shown(k.f), k.r)
}

// problems are leaves with rules of all kinds; they have few completions.
func problems(seed uint64, count int) []problem {
	r := rand.New(rand.NewPCG(seed, 5))
	l := []problem{{example(), plainRules()}, {example(), concords()}, {made(pair, ""), plainRules()}}
	for len(l) < count {
		f := anyLeaf(r, r.IntN(6), 3)
		product := 1.0
		for _, c := range f.Columns {
			product *= choicesOf(c)
		}
		if product < 600 {
			l = append(l, problem{f, anyRules(r)})
		}
	}
	return l
}

// P10.3: List and Count, against all completions.
func TestListAny(t *testing.T) {
	r := rand.New(rand.NewPCG(6, 7))
	several, none, single := 0, 0, 0
	for _, k := range problems(8, 4000) {
		all := allowedOf(k.f, k.r)
		n, e := leaf.Count(k.f, k.r)
		wants(t, "Count of "+k.String(), n, e, len(all))
		for _, most := range []int{64, 1 + r.IntN(64), 1} {
			l, e := leaf.List(k.f, k.r, most)
			want := all[:min(most, len(all))]
			if len(all) == 0 && (e != api.ErrNoReading || len(l) > 0) || len(all) > 0 && (e != api.OK || !samePieces(l, want)) {
				t.Fatalf("List of %v = %s, %d; it should be %s", k, shownPieces(l), e, shownPieces(want))
			}
		}
		switch len(all) {
		case 0:
			none++
		case 1:
			single++
		default:
			several++
		}
	}
	if several < 500 || none < 500 || single < 200 {
		t.Errorf("%d have several completions, %d have one, %d have none", several, single, none)
	}
}

// P10.3: Allowed, against the rules as they stand.
func TestAllowedAny(t *testing.T) {
	r := rand.New(rand.NewPCG(9, 10))
	found := map[api.Errno]int{}
	for _, k := range problems(11, 4000) {
		p := anyPiece(r, k.f)
		plain, _ := piece.Plain(p)
		bare, _ := piece.Bare(plain)
		want := api.OK
		is, _ := leaf.Reads(k.f, p)
		switch {
		case !is:
			want = api.ErrReading
		case !filled(k.r, bare):
			want = api.ErrLength
		case !inConcord(k.r, bare):
			want = api.ErrDiscord
		case !playable(k.r, bare):
			want = api.ErrStuck
		}
		if e := leaf.Allowed(k.f, k.r, p); e != want {
			t.Fatalf("Allowed of %v, %v: %d; it should be %d", k, p, e, want)
		}
		found[want]++
	}
	for _, e := range []api.Errno{api.OK, api.ErrReading, api.ErrLength, api.ErrDiscord, api.ErrStuck} {
		if found[e] < 100 {
			t.Errorf("the error %d is found only %d times", e, found[e])
		}
	}
}

// P10.3: as many completions as can be counted, and more.
func TestCountMany(t *testing.T) {
	for _, c := range []struct {
		column string
		times  int
		want   int
	}{
		{". 4 0/1 -", 10, 1 << 10},
		{". 4/5 0/1 -", 19, 1 << 38},
		{". 4 0/1 -", 39, 1 << 39},
		{". 4 0/1 -", 40, 1 << 40},
		{". 4 0/1 -", 41, 1 << 40},
		{". 4 0/1 -", 400, 1 << 40},
		{". 4/5 0 -", 39, 1 << 39},
		{". 4/5 0 -", 400, 1 << 40},
		{". 4/5 0/1 -", 20, 1 << 40},
		{". 4/5 0/1 -", 21, 1 << 40},
		{". 4/5 0/1 -", 400, 1 << 40},
		{". 4 0/1/2 -", 25, 847288609443},
		{". 4 0/1/2 -", 26, 1 << 40},
		{". 4/5/6 0/1/2 -", 12, 282429536481},
		{". 4/5/6 0/1/2 -", 13, 1 << 40},
		{". 1/2/3 0 -", 25, 847288609443},
		{". 1/2/3 0 -", 26, 1 << 40},
	} {
		f := repeated(made(pair, c.column), c.times)
		n, e := leaf.Count(f, plainRules())
		wants(t, fmt.Sprint("Count of ", c.times, " times ", c.column), n, e, c.want)
		l, e := leaf.List(f, plainRules(), 64)
		if e != api.OK || len(l) != 64 {
			t.Errorf("List of %d times %s: %d completions, %d", c.times, c.column, len(l), e)
		}
	}
}
