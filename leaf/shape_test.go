package leaf_test

import (
	"math/rand/v2"
	"slices"
	"testing"

	"theorbo/api"
	"theorbo/instrument"
	"theorbo/leaf"
)

// combiner is Meet or Join.
type combiner struct {
	name string
	call func(a, b api.Leaf) (api.Leaf, api.Errno)
}

func combiners() []combiner {
	return []combiner{{"Meet", leaf.Meet}, {"Join", leaf.Join}}
}

// P10.2: what two leaves have in common, and together.
func TestMeetAndJoin(t *testing.T) {
	for _, c := range []struct {
		a, b, meet, join string
		within           bool
	}{
		{"", "", "", "", true},
		{". 3 0 3", ". 3 0 3", ". 3 0 3", ". 3 0 3", true},
		{". 3 0 -/3; | 4 1/2 -", ". 3 0 3; | 4 1/2 -", ". 3 0 3; | 4 1/2 -", ". 3 0 -/3; | 4 1/2 -", false},
		{". 3 0 3; | 4 1/2 -", ". 3 0 -/3; | 4 1/2 -", ". 3 0 3; | 4 1/2 -", ". 3 0 -/3; | 4 1/2 -", true},
		{". 3 0 3; | 4 1/2 -", ". 3 0 -; | 4 1/2 -", "none", ". 3 0 -/3; | 4 1/2 -", false},
		{". 3/4/5 0 0", ". 2/4/5. 0 0", ". 4 0 0", ". 2/3/4/5/5. 0 0", false},
		{". 3t/4 0 0", ". 3/3. 0 0", "none", ". 3/3t/3./4 0 0", false},
		{". 4/4t/4. 0 0", ". 4t/4. 0 0", ". 4t/4. 0 0", ". 4/4t/4. 0 0", false},
		{". 4. 0 0", ". 4t/4. 0 0", ". 4. 0 0", ". 4t/4. 0 0", true},
		{". 4 0/2/4 -/1/3/5", ". 4 1/2/3/4 0/5", ". 4 2/4 5", ". 4 0/1/2/3/4 -/0/1/3/5", false},
		{". 4 0 0; |~ 3/4 - -; . 5 -/1 2", ". 4 0 0; |~ 4/5 - -; . 5 1/2 2/3", ". 4 0 0; |~ 4 - -; . 5 1 2", ". 4 0 0; |~ 3/4/5 - -; . 5 -/1/2 2/3", false},
		{". 4 0 0; . 5 1 2", ". 4 0 0; . 5 - 2", "none", ". 4 0 0; . 5 -/1 2", false},
	} {
		a, b := made(pair, c.a), made(pair, c.b)
		is, e := leaf.Within(a, b)
		wants(t, "Within("+c.a+", "+c.b+")", is, e, c.within)
		for _, pair := range [][2]api.Leaf{{a, b}, {b, a}} {
			f, e := leaf.Meet(pair[0], pair[1])
			if c.meet == "none" {
				if e != api.ErrNoReading || !isNothing(f) {
					t.Errorf("Meet(%s, %s) = %v, %d; there is none", c.a, c.b, f, e)
				}
			} else if e != api.OK || shown(f) != c.meet || !instrument.Same(f.Instrument, a.Instrument) {
				t.Errorf("Meet(%s, %s) = %s, %d; it should be %s", c.a, c.b, shown(f), e, c.meet)
			}
			f, e = leaf.Join(pair[0], pair[1])
			if e != api.OK || shown(f) != c.join || !instrument.Same(f.Instrument, a.Instrument) {
				t.Errorf("Join(%s, %s) = %s, %d; it should be %s", c.a, c.b, shown(f), e, c.join)
			}
		}
	}
}

// P10.2: leaves that have not the same shape, and leaves that are not valid, in this order.
func TestShapeErrors(t *testing.T) {
	f := example()
	check := func(name string, a, b api.Leaf, want api.Errno) {
		t.Helper()
		if is, e := leaf.Within(a, b); e != want || is {
			t.Errorf("Within of %s = %v, %d; it should be %d", name, is, e, want)
		}
		for _, c := range combiners() {
			if f, e := c.call(a, b); e != want || !isNothing(f) {
				t.Errorf("%s of %s = %v, %d; it should be %d", c.name, name, f, e, want)
			}
		}
	}
	for _, c := range []struct {
		name  string
		other api.Leaf
	}{
		{"another bar line", made(pair, ". 3 0 -/3; . 4 1/2 -")},
		{"another bar line at the beginning", made(pair, "| 3 0 -/3; | 4 1/2 -")},
		{"a tie", made(pair, ". 3 0 -/3; |~ 4 - -")},
		{"a column too few", made(pair, ". 3 0 -/3")},
		{"a column too many", made(pair, ". 3 0 -/3; | 4 1/2 -; . 4 1/2 -")},
		{"another tuning", made("G4/5 C4/5 : 1 2 3 4 5", ". 3 0 -/3; | 4 1/2 -")},
		{"octaves", made("G4/5 D4/5+ : 1 2 3 4 5", ". 3 0 -/3; | 4 1/2 -")},
		{"other frets", made("G4/5 D4/4 : 1 2 3 4 5", ". 3 0 -/3; | 4 1/2 -")},
		{"other steps", made("G4/5 D4/5 : 1 2 3 4 6", ". 3 0 -/3; | 4 1/2 -")},
		{"nothing in common, and a bar line", made(pair, "| 4 0 -; | 4 1/2 -")},
	} {
		check(c.name, f, c.other, api.ErrReading)
		check(c.name, c.other, f, api.ErrReading)
	}
	for _, b := range brokenLeaves() {
		check(b.name, b.f, f, b.e)
		check("a good leaf, and "+b.name, f, b.f, b.e)
		for _, c := range brokenLeaves() {
			check(b.name+", and "+c.name, b.f, c.f, b.e)
		}
	}
}

// P10.2, P10.8: element by element, for leaves of any kind.
func TestMeetAndJoinAny(t *testing.T) {
	r := rand.New(rand.NewPCG(3, 4))
	met, apart, inside := 0, 0, 0
	for range 3000 {
		a := anyLeaf(r, r.IntN(4), 5)
		b := api.Leaf{Instrument: a.Instrument}
		for _, c := range a.Columns {
			d := anyColumn(r, a.Instrument, c.Tie, 6)
			d.Bar = c.Bar
			if r.IntN(3) == 0 {
				d.Signs = c.Signs
			}
			for i := range d.Cells {
				if r.IntN(2) == 0 {
					d.Cells[i] = c.Cells[i]
				}
			}
			b.Columns = append(b.Columns, d)
		}
		meet, join := api.Leaf{Instrument: a.Instrument}, api.Leaf{Instrument: a.Instrument}
		empty, within := false, true
		for i, c := range a.Columns {
			d := b.Columns[i]
			x, y := api.Column{Bar: c.Bar, Tie: c.Tie}, api.Column{Bar: c.Bar, Tie: c.Tie}
			for _, s := range allSigns() {
				inA, inB := slices.Contains(c.Signs, s), slices.Contains(d.Signs, s)
				within = within && (inB || !inA)
				if inA && inB {
					x.Signs = append(x.Signs, s)
				}
				if inA || inB {
					y.Signs = append(y.Signs, s)
				}
			}
			empty = empty || len(x.Signs) == 0
			for j := range c.Cells {
				var common, all []int
				for n := -1; n <= 18; n++ {
					inA, inB := slices.Contains(c.Cells[j], n), slices.Contains(d.Cells[j], n)
					within = within && (inB || !inA)
					if inA && inB {
						common = append(common, n)
					}
					if inA || inB {
						all = append(all, n)
					}
				}
				empty = empty || len(common) == 0
				x.Cells, y.Cells = append(x.Cells, common), append(y.Cells, all)
			}
			meet.Columns, join.Columns = append(meet.Columns, x), append(join.Columns, y)
		}
		is, e := leaf.Within(a, b)
		wants(t, "Within("+shown(a)+", "+shown(b)+")", is, e, within)
		f, e := leaf.Join(a, b)
		if e != api.OK || !sameLeaf(f, join) {
			t.Fatalf("Join(%s, %s) = %s, %d", shown(a), shown(b), shown(f), e)
		}
		f, e = leaf.Meet(a, b)
		if empty && (e != api.ErrNoReading || !isNothing(f)) || !empty && (e != api.OK || !sameLeaf(f, meet)) {
			t.Fatalf("Meet(%s, %s) = %s, %d", shown(a), shown(b), shown(f), e)
		}
		if empty {
			apart++
		} else {
			met++
		}
		if within {
			inside++
		}
	}
	if met < 500 || apart < 500 || inside < 200 {
		t.Errorf("%d have something in common, %d have nothing, %d are within", met, apart, inside)
	}
}

// allSigns are all signs in order.
func allSigns() []api.Sign {
	var l []api.Sign
	for value := 1; value <= 7; value++ {
		l = append(l, api.Sign{Value: value}, api.Sign{Value: value, Three: true}, api.Sign{Value: value, Dot: true})
	}
	return l
}
