package hand_test

import (
	"fmt"
	"math/rand/v2"
	"slices"
	"testing"

	"theorbo/api"
	"theorbo/hand"
)

// P6.5: the examples.
func TestList(t *testing.T) {
	for _, c := range []struct {
		chords string
		most   int
		want   string
	}{
		{"1.1; 1.3", 64, "(1: 1, 1: 3) 0; (1: 1, 1: 2) 2; (1: 1, 2: 2) 5; (1: 1, 3: 1) 8"},
		{"1.1; 1.3", 3, "(1: 1, 1: 3) 0; (1: 1, 1: 2) 2; (1: 1, 2: 2) 5"},
		{"1.1; 1.3", 1, "(1: 1, 1: 3) 0"},
		{"1.3; 1.3 2.1 h1", 64, "(1: 3, 1: 3 1) 0; (1: 2, 1: 2 1) 4; (2: 2, 1: 2 1) 7"},
		{"", 64, "() 0"},
		{"", 1, "() 0"},
		{"1.3", 64, "(1: 3) 0; (2: 2) 0; (3: 1) 0; (1: 2) 2"},
		// Of those of the same cost the first grip that differs decides.
		{"o1; 1.1 ", 2, "(1:, 1: 1) 0; (2:, 1: 1) 2"},
	} {
		l, e := hand.List(hand.Standard(), chords(c.chords), c.most)
		wants(t, fmt.Sprintf("List of %s with %d", c.chords, c.most), shownFingerings(l), e, c.want)
	}
}

// P6.5: the first fingerings, the first one and the number of all, against all that there are.
func TestListOfAll(t *testing.T) {
	r := rand.New(rand.NewPCG(7, 8))
	stuck, long, equal := 0, 0, 0
	for _, k := range tasks() {
		all := allFingerings(k.h, k.l)
		want := api.OK
		if len(all) == 0 {
			want = api.ErrStuck
			stuck++
		}
		for _, most := range []int{1, 2, 1 + r.IntN(64), 63, 64} {
			first := all[:min(most, len(all))]
			if l, e := hand.List(k.h, k.l, most); e != want || !slices.EqualFunc(l, first, sameFingering) {
				t.Fatalf("List of %v with %d\n = %s, %d; it should be\n %s, %d", k, most, shownFingerings(l), e, shownFingerings(first), want)
			}
		}
		var first api.Fingering
		if len(all) > 0 {
			first = all[0]
		}
		if f, e := hand.Best(k.h, k.l); e != want || !sameFingering(f, first) {
			t.Fatalf("Best of %v = %v, %d; it should be %v, %d", k, f, e, first, want)
		}
		if n, e := hand.Count(k.h, k.l); e != api.OK || n != len(all) {
			t.Fatalf("Count of %v = %d, %d; it should be %d", k, n, e, len(all))
		}
		if len(all) > 64 {
			long++
		}
		if len(all) > 1 && all[0].Cost == all[1].Cost {
			equal++
		}
	}
	if stuck < 100 || long < 50 || equal < 50 {
		t.Errorf("only %d stuck, %d long, %d equal", stuck, long, equal)
	}
}

// P6.5: the number of fingerings, up to MaxCount.
func TestCount(t *testing.T) {
	for text, want := range map[string]int{"1.1; 1.3": 4, "": 1, "1.2 3.2 o2": 0, "1.1; 1.2 3.2 o2; 1.1": 0, ";": 144, "1.17": 0} {
		n, e := hand.Count(hand.Standard(), chords(text))
		wants(t, "Count of "+text, n, e, want)
	}
	// Where nothing is down there are as many grips as positions.
	for _, c := range []struct{ top, chords, want int }{
		{1, 400, 1}, {2, 39, 1 << 39}, {2, 40, 1 << 40}, {2, 41, 1 << 40}, {2, 400, 1 << 40}, {3, 25, 847288609443}, {3, 26, 1 << 40}, {18, 400, 1 << 40},
	} {
		h := hand.Standard()
		h.Top = c.top
		n, e := hand.Count(h, make([]api.Chord, c.chords))
		wants(t, fmt.Sprintf("Count of %d chords with nothing down, Top %d", c.chords, c.top), n, e, c.want)
	}
	// All of them may end with one grip.
	h := hand.Standard()
	h.Top = 2
	for count, want := range map[int]int{39: 1 << 39, 40: 1 << 40, 41: 1 << 40} {
		n, e := hand.Count(h, append(make([]api.Chord, count), chord("1.1")))
		wants(t, fmt.Sprintf("Count of %d chords with nothing down and one more", count), n, e, want)
	}
	// However many there are, a chord that cannot be played leaves none.
	l := append(make([]api.Chord, 100), chord("1.17"))
	if n, e := hand.Count(hand.Standard(), l); e != api.OK || n != 0 {
		t.Errorf("Count of a passage that cannot be played = %d, %d", n, e)
	}
}

// P6.6: the first fingering that has a grip.
func TestThrough(t *testing.T) {
	ab := chords("1.1; 1.3")
	f, e := hand.Through(hand.Standard(), ab, 1, grip("2: 2"))
	wants(t, "Through", shownFingerings([]api.Fingering{f}), e, "(1: 1, 2: 2) 5")
	f, e = hand.Through(hand.Standard(), ab, 0, grip("1: 1"))
	wants(t, "Through", shownFingerings([]api.Fingering{f}), e, "(1: 1, 1: 3) 0")
	for _, c := range []struct {
		chords string
		i      int
		grip   string
		want   api.Errno
	}{
		{"", 0, "1:", api.ErrArg},
		{"1.1; 1.3", -1, "1: 1", api.ErrArg},
		{"1.1; 1.3", 2, "1: 1", api.ErrArg},
		{"1.1; 1.3", 2, "0: 1", api.ErrArg},
		{"1.1; 1.3", 0, "1: 2", api.ErrGrip},
		{"1.1; 1.3", 0, "1: 1 1", api.ErrGrip},
		{"1.17; 1.3", 1, "0: 2", api.ErrGrip},
		{"1.17; 1.3", 1, "1: 2", api.ErrStuck},
		{"1.3; 1.3 2.1 h1", 0, "3: 1", api.ErrStuck},
		{"1.1; 2.10", 1, "9: 2", api.ErrStuck},
	} {
		if f, e := hand.Through(hand.Standard(), chords(c.chords), c.i, grip(c.grip)); e != c.want || !sameFingering(f, api.Fingering{}) {
			t.Errorf("Through of %s, %d, %s = %v, %d; it should be %d", c.chords, c.i, c.grip, f, e, c.want)
		}
	}
	for _, n := range hostile {
		if _, e := hand.Through(hand.Standard(), ab, n, grip("1: 1")); e == api.OK != (n == 0) || e == api.ErrArg != (n < 0 || n > 1) {
			t.Errorf("Through at %d: %d", n, e)
		}
	}
}

// P6.6, P6.13: for each grip of each chord the first fingering that has it; the cheapest of those of one chord costs what Best does.
func TestThroughAll(t *testing.T) {
	passed := 0
	for _, k := range tasks()[:300] {
		all := allFingerings(k.h, k.l)
		for i, c := range k.l {
			least := -1
			for _, g := range allGrips(k.h, c) {
				var want api.Fingering
				wantErr := api.ErrStuck
				at := slices.IndexFunc(all, func(f api.Fingering) bool { return sameGrip(f.Grips[i], g) })
				if at >= 0 {
					want, wantErr = all[at], api.OK
					passed++
				}
				f, e := hand.Through(k.h, k.l, i, g)
				if e != wantErr || !sameFingering(f, want) {
					t.Fatalf("Through of %v, %d, %v = %v, %d; it should be %v, %d", k, i, g, f, e, want, wantErr)
				}
				if e == api.OK && (least < 0 || f.Cost < least) {
					least = f.Cost
				}
			}
			f, e := hand.Best(k.h, k.l)
			if e == api.OK != (least >= 0) || e == api.OK && f.Cost != least {
				t.Fatalf("Best of %v = %v, %d; through the grips of %d the least cost is %d", k, f, e, i, least)
			}
		}
	}
	if passed < 1000 {
		t.Errorf("only %d grips", passed)
	}
}
