package leaf_test

import (
	"fmt"
	"math/rand/v2"
	"slices"
	"testing"

	"theorbo/api"
	"theorbo/hand"
	"theorbo/instrument"
	"theorbo/leaf"
	"theorbo/piece"
	"theorbo/sound"
)

// damaged are leaves that have been pieces which the rules allow; they are too long to be tried out.
func damaged(seed uint64, count int) []problem {
	r := rand.New(rand.NewPCG(seed, 6))
	var l []problem
	for len(l) < count {
		k := problem{r: anyRules(r)}
		k.r.Measure = 0
		k.f.Instrument = anyInstrument(r)
		columns := 8 + r.IntN(40)
		for tries := 0; len(k.f.Columns) < columns && tries < 200; tries++ {
			tie := len(k.f.Columns) > 0 && r.IntN(6) == 0
			more := k
			more.f.Columns = append(slices.Clone(k.f.Columns), anyColumn(r, k.f.Instrument, tie, 1))
			if n, e := leaf.Count(more.f, more.r); n == 1 && e == api.OK {
				k = more
			}
		}
		if len(k.f.Columns) == columns {
			l = append(l, problem{torn(r, k.f), k.r})
		}
	}
	return l
}

// torn returns a leaf with more readings.
func torn(r *rand.Rand, f api.Leaf) api.Leaf {
	t := api.Leaf{Instrument: f.Instrument}
	for _, c := range f.Columns {
		d := anyColumn(r, f.Instrument, c.Tie, 2)
		d.Bar = c.Bar
		if r.IntN(3) == 0 {
			d = c
		}
		t.Columns = append(t.Columns, d)
	}
	both, e := leaf.Join(f, t)
	if e != api.OK {
		panic(e)
	}
	return both
}

// compareCompletions orders the completions of a leaf as the document does.
func compareCompletions(a, b api.Piece) int {
	for i, ev := range a.Events {
		other := b.Events[i]
		if order := compareSigns(ev.Sign, other.Sign); order != 0 {
			return order
		}
		for course := range a.Instrument.Courses {
			if x, y := fretOf(ev, course+1), fretOf(other, course+1); x != y {
				return x - y
			}
		}
	}
	return 0
}

// P10.6: what is listed is read from the leaf and allowed, different and in order; the hand can play it.
func TestEveryCompletion(t *testing.T) {
	long := 0
	for _, k := range damaged(22, 80) {
		l, e := leaf.List(k.f, k.r, 64)
		if e == api.ErrMany {
			continue
		}
		if e != api.OK {
			t.Fatalf("List of %v: %d", k, e)
		}
		for i, p := range l {
			if is, e := leaf.Reads(k.f, p); e != api.OK || !is {
				t.Fatalf("Reads of %v, %v = %v, %d", k, p, is, e)
			}
			if e := leaf.Allowed(k.f, k.r, p); e != api.OK {
				t.Fatalf("Allowed of %v, %v: %d", k, p, e)
			}
			chords, _ := hand.Chords(p)
			if f, e := hand.Best(k.r.Hand, chords); e != api.OK || len(f.Grips) != len(p.Events) {
				t.Fatalf("the hand cannot play %v: %d", p, e)
			}
			if i > 0 && compareCompletions(l[i-1], p) >= 0 {
				t.Fatalf("List of %v has %v before %v", k, l[i-1], p)
			}
		}
		n, e := leaf.Count(k.f, k.r)
		wants(t, "the length of List of "+k.String(), len(l), e, min(n, 64))
		if len(l) == 64 {
			long++
		}
	}
	if long < 30 {
		t.Errorf("only %d long lists", long)
	}
}

// P10.6: the completion of each piece that is allowed is listed, unless the list is full.
func TestNothingMissing(t *testing.T) {
	r := rand.New(rand.NewPCG(23, 24))
	listed, later := 0, 0
	for _, k := range problems(25, 1500) {
		l, _ := leaf.List(k.f, k.r, 64)
		for range 5 {
			p := anyPiece(r, k.f)
			if leaf.Allowed(k.f, k.r, p) != api.OK {
				continue
			}
			of, _ := leaf.Of(p)
			whole, _ := leaf.Piece(of)
			if slices.ContainsFunc(l, func(q api.Piece) bool { return piece.Same(whole, q) }) {
				listed++
				continue
			}
			later++
			if len(l) < 64 || compareCompletions(whole, l[63]) < 0 {
				t.Fatalf("List of %v does not have %v", k, whole)
			}
		}
	}
	if listed < 500 || later < 20 {
		t.Errorf("%d pieces are listed, %d come later", listed, later)
	}
}

// P10.7: what is narrowed has the same completions, and each of its readings in one of them.
func TestNarrowed(t *testing.T) {
	r := rand.New(rand.NewPCG(41, 42))
	narrower := 0
	for _, k := range slices.Concat(problems(26, 1000), damaged(27, 100)) {
		f, e := leaf.Narrow(k.f, k.r)
		if e != api.OK {
			continue
		}
		is, e := leaf.Within(f, k.f)
		wants(t, "Within of the narrowed leaf", is, e, true)
		if !sameLeaf(f, k.f) {
			narrower++
		}
		again, e := leaf.Narrow(f, k.r)
		if e != api.OK || !sameLeaf(again, f) {
			t.Fatalf("Narrow of %v = %s, and again %s, %d", k, shown(f), shown(again), e)
		}
		before, _ := leaf.List(k.f, k.r, 64)
		after, _ := leaf.List(f, k.r, 64)
		if !samePieces(before, after) {
			t.Fatalf("List of %v = %s; if it is narrowed it is %s", k, shownPieces(before), shownPieces(after))
		}
		m, _ := leaf.Count(k.f, k.r)
		n, e := leaf.Count(f, k.r)
		wants(t, "Count of the narrowed leaf", n, e, m)
		eachReading(f, func(alone api.Leaf) {
			if len(f.Columns) > 7 && r.IntN(10) > 0 {
				return
			}
			if l, e := leaf.List(alone, k.r, 1); e != api.OK || leaf.Allowed(k.f, k.r, l[0]) != api.OK {
				t.Fatalf("Narrow of %v keeps what has no completion: %s", k, shown(alone))
			}
		})
	}
	if narrower < 100 {
		t.Errorf("only %d leaves are narrower", narrower)
	}
}

// eachReading calls a function with the leaves in which one cell, or Signs of one column, has one of its elements alone.
func eachReading(f api.Leaf, look func(alone api.Leaf)) {
	for i, c := range f.Columns {
		change := func(d api.Column) {
			alone := f
			alone.Columns = slices.Clone(f.Columns)
			alone.Columns[i] = d
			look(alone)
		}
		for _, s := range c.Signs {
			d := c
			d.Signs = []api.Sign{s}
			change(d)
		}
		for j, cell := range c.Cells {
			for _, n := range cell {
				d := c
				d.Cells = slices.Clone(c.Cells)
				d.Cells[j] = []int{n}
				change(d)
			}
		}
	}
}

// P10.8: the completions of Meet are those of both leaves, the completions of Join are those of either, and perhaps others.
func TestMetCompletions(t *testing.T) {
	r := rand.New(rand.NewPCG(28, 29))
	met, apart := 0, 0
	for _, k := range problems(30, 800) {
		other := torn(r, k.f)
		if r.IntN(2) == 0 {
			other = anyShapeOf(r, k.f)
			for i, c := range k.f.Columns {
				d := anyColumn(r, k.f.Instrument, c.Tie, 3)
				d.Bar = c.Bar
				other.Columns[i] = d
			}
		}
		meet, e := leaf.Meet(k.f, other)
		join, _ := leaf.Join(k.f, other)
		common := 0
		for _, p := range completionsOf(k.f) {
			inOther, _ := leaf.Reads(other, p)
			if inOther {
				common++
			}
			if e == api.OK {
				is, e := leaf.Reads(meet, p)
				wants(t, "Reads of Meet", is, e, inOther)
			}
			is, e := leaf.Reads(join, p)
			wants(t, "Reads of Join", is, e, true)
		}
		switch e {
		case api.OK:
			met++
			wants(t, "the completions of Meet", len(completionsOf(meet)), e, common)
			l, _ := leaf.List(meet, k.r, 64)
			for _, p := range l {
				if leaf.Allowed(k.f, k.r, p) != api.OK || leaf.Allowed(other, k.r, p) != api.OK {
					t.Fatalf("Meet of %s and %s has %v", shown(k.f), shown(other), p)
				}
			}
		case api.ErrNoReading:
			apart++
			wants(t, "the common completions", common, api.OK, 0)
		default:
			t.Fatalf("Meet of %s and %s: %d", shown(k.f), shown(other), e)
		}
		p := anyPiece(r, other)
		if is, _ := leaf.Reads(other, p); is {
			in, e := leaf.Reads(join, p)
			wants(t, "Reads of Join", in, e, true)
		}
	}
	if met < 200 || apart < 200 {
		t.Errorf("%d leaves meet, %d do not", met, apart)
	}
}

// P10.9: rules that ask for less allow what the others allow.
func TestFewerRules(t *testing.T) {
	r := rand.New(rand.NewPCG(31, 32))
	more, grown := 0, 0
	for _, k := range slices.Concat(problems(33, 3000), damaged(34, 60)) {
		easier := k.r
		for _, change := range []func(){
			func() { easier.Concord = false },
			func() { easier.Measure = 0 },
			func() { easier.Hand.Top = min(18, easier.Hand.Top+1+r.IntN(3)) },
			func() { easier.Hand.Jump = min(18, easier.Hand.Jump+1+r.IntN(3)) },
		} {
			if r.IntN(2) == 0 {
				change()
			}
		}
		before, e := leaf.Count(k.f, k.r)
		after, f := leaf.Count(k.f, easier)
		if e != api.OK || f != api.OK {
			continue
		}
		if after < before {
			t.Fatalf("Count of %v = %d, with %v it is %d", k, before, easier, after)
		}
		if before > 0 {
			more++
		}
		if after > before {
			grown++
		}
		l, _ := leaf.List(k.f, k.r, 64)
		for _, p := range l {
			if e := leaf.Allowed(k.f, easier, p); e != api.OK {
				t.Fatalf("%v is allowed for %v, but not with %v: %d", p, k, easier, e)
			}
		}
	}
	if more < 500 || grown < 300 {
		t.Errorf("%d leaves have completions, %d more with fewer rules", more, grown)
	}
}

// P10.10: nothing listed has fewer differences than Nearest; what is allowed itself has none.
func TestNoneNearer(t *testing.T) {
	r := rand.New(rand.NewPCG(35, 36))
	itself := 0
	for _, k := range slices.Concat(problems(37, 1000), damaged(38, 150)) {
		p := anyPiece(r, k.f)
		near, differences, e := leaf.Nearest(k.f, k.r, p)
		if e != api.OK {
			continue
		}
		if e := leaf.Allowed(k.f, k.r, near); e != api.OK || differencesOf(near, p) != differences {
			t.Fatalf("Nearest of %v to %v = %v, %d; Allowed of it is %d", k, p, near, differences, e)
		}
		l, _ := leaf.List(k.f, k.r, 64)
		for _, q := range l {
			if differencesOf(q, p) < differences || differencesOf(q, p) == differences && compareCompletions(q, near) < 0 {
				t.Fatalf("Nearest of %v to %v = %v, %d; %v is nearer, or comes first", k, p, near, differences, q)
			}
		}
		if leaf.Allowed(k.f, k.r, p) == api.OK {
			itself++
			if differences > 0 || !piece.Alike(near, p) {
				t.Fatalf("Nearest of %v to %v, which is allowed, = %v, %d", k, p, near, differences)
			}
		}
		if len(l) == 0 {
			continue
		}
		// A completion is nearest to itself.
		q := l[r.IntN(len(l))]
		near, differences, e = leaf.Nearest(k.f, k.r, q)
		if e != api.OK || differences != 0 || !piece.Same(near, q) {
			t.Fatalf("Nearest of %v to %v = %v, %d, %d", k, q, near, differences, e)
		}
	}
	if itself < 100 {
		t.Errorf("only %d pieces are allowed themselves", itself)
	}
}

// P10.11: Of a piece has one completion, which plays the same.
func TestCompletionOfPiece(t *testing.T) {
	r := rand.New(rand.NewPCG(39, 40))
	for range 2000 {
		p := anyPiece(r, anyLeaf(r, r.IntN(12), 3))
		f, e := leaf.Of(p)
		if e != api.OK || leaf.Check(f) != api.OK {
			t.Fatalf("Of(%v) = %v, %d", p, f, e)
		}
		wants(t, "the completions", len(completionsOf(f)), api.OK, 1)
		q, e := leaf.Piece(f)
		if e != api.OK || !piece.Alike(p, q) {
			t.Fatalf("Piece of Of(%v) = %v, %d", p, q, e)
		}
		for i, ev := range q.Events {
			if ev.Bar != p.Events[i].Bar || ev.Sign == (api.Sign{}) {
				t.Fatalf("Piece of Of(%v) = %v", p, q)
			}
			for _, st := range ev.Stops {
				if st.Right != 0 || st.Grace != 0 || st.Hold != 0 {
					t.Fatalf("Piece of Of(%v) = %v", p, q)
				}
			}
		}
		again, _ := leaf.Of(q)
		is, e := leaf.Within(again, f)
		wants(t, "Within of Of again", is && sameLeaf(again, f), e, true)
	}
}

// P0.1: long leaves with as many readings and situations, or as many grips, as there may be.
func TestLargest(t *testing.T) {
	column := fmt.Sprintf(". 4 %s %s %s", ten, ten, ten)
	k := problem{repeated(made(gut(3), column), 100), api.Rules{Hand: octopus()}}
	if at, e := faultOf(t, k); e != api.OK || at != 0 {
		t.Fatalf("the error is %d at %d", e, at)
	}
	n, e := leaf.Count(k.f, k.r)
	wants(t, "Count", n, e, api.MaxCount)
	f, e := leaf.Narrow(k.f, k.r)
	if e != api.OK || !sameLeaf(f, k.f) {
		t.Errorf("Narrow: %d", e)
	}
	just, _ := grasping()
	dense := problem{repeated(made(gut(5), ". 3/4 -/9 9 9 9 -/0"), 400), api.Rules{Hand: just}}
	if at, e := faultOf(t, dense); e != api.OK || at != 0 {
		t.Errorf("the error is %d at %d", e, at)
	}
	// Many open strings that ring on, and many chords that no hand can play.
	wide := repeated(made(gut(14), ". 4 -/0 - -/0 - -/0 - -/0 - -/0 - -/0 -/0 -/0 -/0; . 4 - 1/2/3 - 1/2/3 - 6/7/8 - 6/7/8 - -/6/7/8 - - - -"), 8)
	if _, e := leaf.Count(wide, plainRules()); e != api.OK {
		t.Errorf("Count of open strings: %d", e)
	}
}

// P10.3: a concord is one of the places of an event, without the strings that ring on.
func TestConcords(t *testing.T) {
	const in = "C4/5+ G3/5 E3/5 : 1 2 3 4 5"
	for _, c := range []struct {
		columns string
		want    int
	}{
		{". 4 0 0 0", 1},
		{". 4 0 0 -", 0},
		{". 4 0 - -; . 4 - 0 -; . 4 2 - -", 1},
		{". 4 - - 1; . 4 0 - -; ~ 4 - - -", 1},
		{". 4 - - -", 1},
		{". 4 1 1 0", 1},
		{". 4 0 0 1", 0},
	} {
		f := made(in, c.columns)
		p, _ := leaf.Piece(f)
		n, e := leaf.Count(f, concords())
		wants(t, "Count of "+c.columns, n, e, c.want)
		for _, ev := range p.Events {
			var pitches []int
			for _, st := range ev.Stops {
				pitch, _ := instrument.At(p.Instrument, api.Place{Course: st.Course, Fret: st.Fret})
				pitches = append(pitches, pitch)
			}
			if c.want == 1 && !sound.Concordant(pitches) {
				t.Errorf("the pitches %v of %s are no concord", pitches, c.columns)
			}
		}
	}
}
