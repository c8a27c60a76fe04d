package hand_test

import (
	"math/rand/v2"
	"slices"
	"testing"

	"theorbo/api"
	"theorbo/hand"
)

// long are sequences of chords that cannot be tried out.
func long() []task {
	r := rand.New(rand.NewPCG(15, 16))
	var l []task
	for len(l) < 40 {
		k := task{h: anyHand(r)}
		var before api.Chord
		for len(k.l) < 20+r.IntN(60) {
			c := anyChord(r, before, 1+r.IntN(9))
			longer := append(k.l[:len(k.l):len(k.l)], c)
			if _, e := hand.Best(k.h, longer); e == api.OK {
				k.l, before = longer, c
			} else if r.IntN(30) == 0 {
				before = api.Chord{}
				k.l = append(k.l, before)
			}
		}
		l = append(l, k)
	}
	return l
}

// compareFingerings orders fingerings as the document does.
func compareFingerings(a, b api.Fingering) int {
	if a.Cost != b.Cost {
		return a.Cost - b.Cost
	}
	for i, g := range a.Grips {
		if g.Pos != b.Grips[i].Pos {
			return g.Pos - b.Grips[i].Pos
		}
		if order := slices.Compare(g.Fingers, b.Grips[i].Fingers); order != 0 {
			return order
		}
	}
	return 0
}

// P6.10, P6.11, P0.4: what List returns is valid, different and in order; the certificate says that nothing is cheaper.
func TestListed(t *testing.T) {
	full := 0
	for _, k := range long() {
		l, e := hand.List(k.h, k.l, 64)
		if e != api.OK {
			t.Fatalf("List of %v: %d", k, e)
		}
		for i, f := range l {
			if cost, _, valid := costOf(k.h, k.l, f.Grips); !valid || cost != f.Cost || len(f.Grips) != len(k.l) {
				t.Fatalf("List of %v has %v, whose cost is %d, %v", k, f, cost, valid)
			}
			if cost, at, e := hand.Valid(k.h, k.l, f.Grips); cost != f.Cost || at != 0 || e != api.OK {
				t.Fatalf("Valid of %v, %v = %d, %d, %d", k, f, cost, at, e)
			}
			if i > 0 && compareFingerings(l[i-1], f) >= 0 {
				t.Fatalf("List of %v has %v before %v", k, l[i-1], f)
			}
		}
		count, _ := hand.Count(k.h, k.l)
		if len(l) != min(count, 64) {
			t.Fatalf("List of %v has %d of %d fingerings", k, len(l), count)
		}
		if len(l) == 64 {
			full++
		}
		best, e := hand.Best(k.h, k.l)
		if e != api.OK || !sameFingering(best, l[0]) {
			t.Fatalf("Best of %v = %v, %d; the first one listed is %v", k, best, e, l[0])
		}
		table, _ := hand.Prove(k.h, k.l)
		if !proves(k, table, best.Cost) || proves(k, table, best.Cost+1) {
			t.Fatalf("Prove of %v = %v", k, table)
		}
	}
	if full < 20 {
		t.Errorf("only %d long lists", full)
	}
}

// P6.11: no fingering through any grip that comes before the last one listed is missing.
func TestNoneBefore(t *testing.T) {
	r := rand.New(rand.NewPCG(17, 18))
	for _, k := range long() {
		l, _ := hand.List(k.h, k.l, 64)
		for range 40 {
			i := r.IntN(len(k.l))
			all, _ := hand.Grips(k.h, k.l[i])
			f, e := hand.Through(k.h, k.l, i, all[r.IntN(len(all))])
			if e != api.OK || compareFingerings(f, l[len(l)-1]) > 0 {
				continue
			}
			if !slices.ContainsFunc(l, func(other api.Fingering) bool { return sameFingering(f, other) }) {
				t.Fatalf("List of %v does not have %v", k, f)
			}
		}
	}
}

// P6.14: a hand that can do more plays what it could play, at the same cost, and not dearer.
func TestStrongerHand(t *testing.T) {
	r := rand.New(rand.NewPCG(19, 20))
	compared := 0
	for _, k := range tasks() {
		h := roomyHand(k.h)
		switch r.IntN(4) {
		case 0:
			h.Top = min(18, h.Top+1+r.IntN(3))
		case 1:
			h.Jump = min(18, h.Jump+1+r.IntN(3))
		case 2:
			for i := r.IntN(len(h.High)); i < len(h.High); i++ {
				h.High[i] = min(8, h.High[i]+1)
			}
		default:
			h.Barre[r.IntN(len(h.Barre))] = true
		}
		old, e := hand.List(k.h, k.l, 64)
		if e != api.OK {
			continue
		}
		for _, f := range old {
			if cost, at, e := hand.Valid(h, k.l, f.Grips); cost != f.Cost || at != 0 || e != api.OK {
				t.Fatalf("Valid of %v, %v = %d, %d, %d with the hand %v", k, f, cost, at, e, h)
			}
			compared++
		}
		if best, e := hand.Best(h, k.l); e != api.ErrMany && (e != api.OK || best.Cost > old[0].Cost) {
			t.Fatalf("Best of %v = %v, with the hand %v %v, %d", k, old[0], h, best, e)
		}
	}
	if compared < 2000 {
		t.Errorf("only %d fingerings", compared)
	}
}

// P6.14: lower weights make nothing dearer.
func TestLowerWeights(t *testing.T) {
	r := rand.New(rand.NewPCG(21, 22))
	for _, k := range slices.Concat(tasks(), long()) {
		h := k.h
		for _, weight := range []*int{&h.Shift, &h.Lift, &h.Bar, &h.Stretch, &h.Slide} {
			*weight = r.IntN(*weight + 1)
		}
		before, e := hand.Best(k.h, k.l)
		after, f := hand.Best(h, k.l)
		if e != f || after.Cost > before.Cost {
			t.Fatalf("Best of %v = %v, %d; of the hand %v it is %v, %d", k, before, e, h, after, f)
		}
	}
}

// P6.15: a sequence costs at least what its parts cost.
func TestParts(t *testing.T) {
	for _, k := range slices.Concat(tasks(), long()) {
		whole, e := hand.Best(k.h, k.l)
		if e != api.OK {
			continue
		}
		for cut := range len(k.l) + 1 {
			a, e := hand.Best(k.h, k.l[:cut])
			b, f := hand.Best(k.h, k.l[cut:])
			if e != api.OK || f != api.OK || a.Cost+b.Cost > whole.Cost {
				t.Fatalf("Best of %v costs %d, of its parts at %d %d and %d (%d, %d)", k, whole.Cost, cut, a.Cost, b.Cost, e, f)
			}
		}
	}
}

// P6.16: higher up on the neck everything costs the same.
func TestHigherUp(t *testing.T) {
	raised := 0
	for _, k := range slices.Concat(tasks(), long()) {
		l, _ := hand.List(k.h, k.l, 16)
		for by := 1; by <= 4; by++ {
			higher, possible := raise(k.l, by)
			for _, f := range l {
				var moved []api.Grip
				for _, g := range f.Grips {
					moved = append(moved, api.Grip{Pos: g.Pos + by, Fingers: g.Fingers})
					possible = possible && g.Pos+by <= k.h.Top
				}
				if !possible {
					break
				}
				raised++
				if cost, at, e := hand.Valid(k.h, higher, moved); cost != f.Cost || at != 0 || e != api.OK {
					t.Fatalf("Valid of %v, %v raised by %d = %d, %d, %d", k, f, by, cost, at, e)
				}
			}
		}
	}
	if raised < 1000 {
		t.Errorf("only %d fingerings", raised)
	}
}

func raise(l []api.Chord, by int) (higher []api.Chord, possible bool) {
	possible = true
	for _, c := range l {
		c.Down = slices.Clone(c.Down)
		for i := range c.Down {
			c.Down[i].Fret += by
			possible = possible && c.Down[i].Fret <= api.MaxFrets
		}
		higher = append(higher, c)
	}
	return higher, possible
}
