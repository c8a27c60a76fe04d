package hand_test

import (
	"math/rand/v2"
	"slices"
	"strconv"
	"testing"

	"theorbo/api"
	"theorbo/hand"
)

// P6.3: the examples, and each condition of a grip alone.
func TestGrips(t *testing.T) {
	for _, c := range []struct{ chord, want string }{
		{"1.1", "1: 1"},
		{"1.3", "1: 2, 1: 3, 2: 2, 3: 1"},
		{"1.3 2.1", "1: 2 1, 1: 3 1"},
		{"1.2 3.2", "2: 1 1"},
		{"1.2 3.2 o2", ""},
		{"", "1:, 2:, 3:, 4:, 5:, 6:, 7:, 8:, 9:, 10:, 11:, 12:"},
		{"o1 o14", "1:, 2:, 3:, 4:, 5:, 6:, 7:, 8:, 9:, 10:, 11:, 12:"},
		// Held does not matter.
		{"1.3 h1", "1: 2, 1: 3, 2: 2, 3: 1"},
		// Two fingers on one fret: the one on the greater course is the lower one.
		{"1.4 2.4", "1: 4 3, 2: 3 2, 4: 1 1"},
		// A barre may cover a greater fret between, and courses of Open outside, but no lower fret between.
		{"1.2 2.3 3.2", "2: 1 2 1"},
		{"2.2 4.2 o1 o5", "2: 1 1"},
		{"1.3 2.2 3.3", ""},
		{"1.5 2.4 3.5", "2: 4 2 3"},
		// No fret is out of reach at the top; beyond it none is reached.
		{"1.16", "12: 4"},
		{"1.17", ""},
		{"1.12 2.12 3.12 4.12 5.12 6.12 7.12 8.12 9.12 10.12 11.12 12.12 13.12 14.12", "12: 1 1 1 1 1 1 1 1 1 1 1 1 1 1"},
	} {
		l, e := hand.Grips(hand.Standard(), chord(c.chord))
		wants(t, "Grips of "+c.chord, shownGrips(l), e, c.want)
	}
	// With barres of all fingers: one condition after the other.
	h := full()
	h.Top = 1
	for _, c := range []struct{ chord, want string }{
		{"1.2 2.3", "1: 1 2, 1: 1 3, 1: 1 4, 1: 2 3, 1: 2 4, 1: 3 4"},
		{"1.3 2.2", "1: 2 1, 1: 3 1, 1: 3 2, 1: 4 1, 1: 4 2, 1: 4 3"},
		{"1.2 2.2", "1: 1 1, 1: 2 1, 1: 2 2, 1: 3 1, 1: 3 2, 1: 3 3, 1: 4 1, 1: 4 2, 1: 4 3, 1: 4 4"},
		{"1.2 3.2 o2", "1: 2 1, 1: 3 1, 1: 3 2, 1: 4 1, 1: 4 2, 1: 4 3"},
		{"1.2 2.1 3.2", "1: 3 1 2, 1: 4 1 2, 1: 4 1 3, 1: 4 2 3"},
		{"1.1 2.2 3.3 4.4", "1: 1 2 3 4"},
		{"1.1 2.2 3.3 4.4 5.5", ""},
		{"1.10", ""},
	} {
		l, e := hand.Grips(h, chord(c.chord))
		wants(t, "Grips of "+c.chord, shownGrips(l), e, c.want)
	}
}

// P6.3: exactly those that fit, in order, for all kinds of hands and chords.
func TestGripsOfAll(t *testing.T) {
	some := 0
	for _, k := range tasks() {
		for _, c := range k.l {
			want := allGrips(k.h, c)
			if l, e := hand.Grips(k.h, c); e != api.OK || !sameGrips(l, want) {
				t.Fatalf("Grips of %v, %v = %v, %d; it should be %v", k.h, c, l, e, want)
			}
			if len(c.Down) > 1 && len(want) > 1 {
				some++
			}
		}
	}
	if some < 200 {
		t.Errorf("only %d chords", some)
	}
}

// P6.3: 200 grips are listed, 201 are too many.
func TestGripsMany(t *testing.T) {
	just, over, c := many()
	if n := len(allGrips(just, c)); n != 200 {
		t.Fatalf("%d grips", n)
	}
	if n := len(allGrips(over, c)); n != 201 {
		t.Fatalf("%d grips", n)
	}
	if l, e := hand.Grips(just, c); e != api.OK || !sameGrips(l, allGrips(just, c)) {
		t.Errorf("%d grips, %d", len(l), e)
	}
	if l, e := hand.Grips(over, c); e != api.ErrMany || len(l) > 0 {
		t.Errorf("%d grips, %d", len(l), e)
	}
}

// P6.4: the own costs of the examples and of other grips.
func TestOwn(t *testing.T) {
	wide := full()
	wide.Bar, wide.Stretch = 100, 1
	for _, c := range []struct {
		h           api.Hand
		chord, grip string
		want        int
	}{
		{hand.Standard(), "1.3", "1: 2", 2},
		{hand.Standard(), "1.3", "1: 3", 0},
		{hand.Standard(), "1.3", "2: 2", 0},
		{hand.Standard(), "1.3", "3: 1", 0},
		{hand.Standard(), "1.2 3.2", "2: 1 1", 4},
		{hand.Standard(), "o3", "7:", 0},
		{hand.Standard(), "1.5", "1: 4", 2},
		// A stretch counts once for a finger, however many places it has.
		{wide, "1.5 2.5 3.5", "1: 1 1 1", 104},
		{wide, "1.5 2.5 3.5", "1: 2 1 1", 107},
		{wide, "1.5 2.5 3.6 4.6", "4: 2 1 4 4", 102},
		{wide, "1.5 2.5 3.6 4.6", "4: 1 1 4 4", 202},
		// A finger may have to be drawn back as well.
		{wide, "1.2", "2: 4", 3},
	} {
		cost, e := hand.Own(c.h, chord(c.chord), grip(c.grip))
		wants(t, "Own of "+c.chord+" with "+c.grip, cost, e, c.want)
	}
}

// P6.4: the steps of the examples and each part of the cost.
func TestStep(t *testing.T) {
	for _, c := range []struct {
		from, grip, to, next string
		want                 int
		e                    api.Errno
	}{
		{"1.1", "1: 1", "1.3", "3: 1", 8, api.OK},
		{"1.3", "1: 2", "1.3 2.1 h1", "1: 2 1", 0, api.OK},
		{"1.3", "1: 2", "1.3 2.1 h1", "1: 3 1", 0, api.ErrGrip},
		{"1.3", "1: 2", "1.3 2.1", "1: 3 1", 0, api.OK},
		// Slide: not with a place in common, and only for fingers that are down in both.
		{"1.1", "1: 1", "2.1", "1: 1", 1, api.OK},
		{"1.2 2.2", "2: 1 1", "2.2 3.2", "2: 1 1", 0, api.OK},
		{"1.2 2.2", "2: 1 1", "1.3 2.3", "3: 1 1", 6, api.OK},
		{"1.1 2.2", "1: 1 2", "1.2 2.3", "1: 2 3", 1, api.OK},
		{"1.1 2.2", "1: 1 2", "2.1 3.3", "1: 1 2", 2, api.OK},
		{"1.2", "1: 2", "1.3", "1: 3", 0, api.OK},
		{"1.2", "1: 2", "1.3", "1: 2", 1, api.OK},
		// Nothing down: the hand moves as far as it likes, without Lift.
		{"", "1:", "1.12", "12: 1", 22, api.OK},
		{"1.12", "12: 1", "o1", "2:", 20, api.OK},
		{"", "12:", "", "1:", 22, api.OK},
		{"", "5:", "", "5:", 0, api.OK},
		// Jump is 7.
		{"1.1", "1: 1", "2.10", "8: 2", 17, api.OK},
		{"1.1", "1: 1", "2.10", "9: 2", 0, api.ErrGrip},
		{"1.10", "9: 2", "2.1", "1: 1", 0, api.ErrGrip},
	} {
		cost, e := hand.Step(hand.Standard(), chord(c.from), grip(c.grip), chord(c.to), grip(c.next))
		if cost != c.want || e != c.e {
			t.Errorf("Step from %s with %s to %s with %s = %d, %d; it should be %d, %d", c.from, c.grip, c.to, c.next, cost, e, c.want, c.e)
		}
	}
}

// nearly returns a grip that does not differ much from one that may fit.
func nearly(r *rand.Rand, h api.Hand, c api.Chord) api.Grip {
	g := api.Grip{Pos: r.IntN(h.Top + 2)}
	if all := allGrips(h, c); len(all) > 0 && r.IntN(5) > 0 {
		g = all[r.IntN(len(all))]
	} else {
		for range c.Down {
			g.Fingers = append(g.Fingers, 1+r.IntN(4))
		}
	}
	switch r.IntN(12) {
	case 0:
		g.Fingers = append(g.Fingers, 1)
	case 1:
		g.Pos++
	case 2, 3:
		if len(g.Fingers) > 0 {
			g.Fingers[r.IntN(len(g.Fingers))] = r.IntN(6)
		}
	}
	return g
}

// P6.4: own costs, steps and fingerings of all kinds, right and wrong ones.
func TestCosts(t *testing.T) {
	r := rand.New(rand.NewPCG(5, 6))
	right, wrong := 0, 0
	count := func(e api.Errno) {
		if e == api.OK {
			right++
		} else {
			wrong++
		}
	}
	for _, k := range tasks() {
		for range 4 {
			var fingering []api.Grip
			for _, c := range k.l {
				fingering = append(fingering, nearly(r, k.h, c))
			}
			for i, g := range fingering {
				c, want, wantErr := k.l[i], 0, api.ErrGrip
				if fits(k.h, c, g) {
					want, wantErr = ownCost(k.h, c, g), api.OK
				}
				cost, e := hand.Own(k.h, c, g)
				if cost != want || e != wantErr {
					t.Fatalf("Own of %v, %v, %v = %d, %d; it should be %d, %d", k.h, c, g, cost, e, want, wantErr)
				}
				count(e)
				if i > 0 {
					e := checkStep(t, k.h, k.l[i-1], fingering[i-1], c, g)
					count(e)
				}
			}
			checkValid(t, k, fingering)
		}
	}
	if right < 1000 || wrong < 1000 {
		t.Errorf("%d right, %d wrong", right, wrong)
	}
}

// checkStep compares Step with the document.
func checkStep(t *testing.T, h api.Hand, a api.Chord, g api.Grip, b api.Chord, k api.Grip) api.Errno {
	t.Helper()
	want, wantErr := 0, api.ErrGrip
	if fits(h, a, g) && fits(h, b, k) {
		if cost, possible := stepCost(h, a, g, b, k); possible {
			want, wantErr = cost, api.OK
		}
	}
	cost, e := hand.Step(h, a, g, b, k)
	if cost != want || e != wantErr {
		t.Fatalf("Step of %v from %v, %v to %v, %v = %d, %d; it should be %d, %d", h, a, g, b, k, cost, e, want, wantErr)
	}
	return e
}

// checkValid compares Valid and Hardest with the document.
func checkValid(t *testing.T, k task, fingering []api.Grip) {
	t.Helper()
	want, wantAt, valid := costOf(k.h, k.l, fingering)
	wantErr, hardestErr := api.OK, api.OK
	if !valid {
		wantErr, hardestErr = api.ErrGrip, api.ErrGrip
	} else if len(k.l) == 0 {
		hardestErr = api.ErrNone
	}
	if cost, at, e := hand.Valid(k.h, k.l, fingering); cost != want || at != wantAt || e != wantErr {
		t.Fatalf("Valid of %v, %v = %d, %d, %d; it should be %d, %d, %d", k, fingering, cost, at, e, want, wantAt, wantErr)
	}
	hardest, greatest, before := 0, -1, 0
	for i := range k.l {
		// What the first grips cost grows by what the chord costs.
		sum, _, _ := costOf(k.h, k.l[:i+1], fingering[:i+1])
		if valid && sum-before > greatest {
			hardest, greatest = i, sum-before
		}
		before = sum
	}
	if got, e := hand.Hardest(k.h, k.l, fingering); got != hardest || e != hardestErr {
		t.Fatalf("Hardest of %v, %v = %d, %d; it should be %d, %d", k, fingering, got, e, hardest, hardestErr)
	}
}

// P6.4, P6.6: which chord is at fault, or the hardest.
func TestValid(t *testing.T) {
	for _, c := range []struct {
		chords, grips  string
		cost, at, most int
		e              api.Errno
	}{
		{"1.1; 1.3", "1: 1, 1: 3", 0, 0, 0, api.OK},
		{"1.1; 1.3", "1: 1, 1: 2", 2, 0, 1, api.OK},
		{"1.1; 1.3", "1: 1, 3: 1", 8, 0, 1, api.OK},
		{"1.2 3.2; 1.2 3.2; ", "2: 1 1, 2: 1 1, 2:", 8, 0, 0, api.OK},
		{"1.1; 1.2 2.2; 1.2 2.2", "1: 1, 2: 1 1, 2: 1 1", 14, 0, 1, api.OK},
		{"1.3; 1.3 2.1 h1", "1: 2, 1: 3 1", 0, 1, 0, api.ErrGrip},
		{"1.3; 1.3 2.1 h1", "1: 1, 1: 3 2", 0, 0, 0, api.ErrGrip},
		{"1.1; 1.1; 1.16", "1: 1, 1: 1, 12: 4", 0, 2, 0, api.ErrGrip},
		{"1.1; 1.3", "1: 1", 0, 0, 0, api.ErrArg},
		{"1.1", "1: 1, 1: 1", 0, 0, 0, api.ErrArg},
		{"1.1", "", 0, 0, 0, api.ErrArg},
	} {
		call := c.chords + " with " + c.grips
		if cost, at, e := hand.Valid(hand.Standard(), chords(c.chords), grips(c.grips)); cost != c.cost || at != c.at || e != c.e {
			t.Errorf("Valid of %s = %d, %d, %d; it should be %d, %d, %d", call, cost, at, e, c.cost, c.at, c.e)
		}
		if most, e := hand.Hardest(hand.Standard(), chords(c.chords), grips(c.grips)); most != c.most || e != c.e {
			t.Errorf("Hardest of %s = %d, %d; it should be %d, %d", call, most, e, c.most, c.e)
		}
	}
	if cost, at, e := hand.Valid(hand.Standard(), nil, nil); cost != 0 || at != 0 || e != api.OK {
		t.Errorf("Valid of nothing = %d, %d, %d", cost, at, e)
	}
	if at, e := hand.Hardest(hand.Standard(), nil, nil); at != 0 || e != api.ErrNone {
		t.Errorf("Hardest of nothing = %d, %d", at, e)
	}
	if at, e := hand.Hardest(hand.Standard(), nil, grips("1:")); at != 0 || e != api.ErrArg {
		t.Errorf("Hardest of nothing with a grip = %d, %d", at, e)
	}
}

// P6.4: Valid and Hardest play chords that too many grips fit.
func TestValidOfMany(t *testing.T) {
	_, over, c := many()
	l := []api.Chord{c, c}
	for _, g := range []string{"9: 1 1 1 1", "2: 4 3 2 1"} {
		checkValid(t, task{over, l}, slices.Repeat(grips(g), 2))
	}
	if _, at, e := hand.Valid(over, l, grips("9: 1 1 1 1, 9: 2 1 1 1")); at != 1 || e != api.ErrGrip {
		t.Errorf("Valid = %d, %d", at, e)
	}
}

// P6.4, R1: the order of the errors of Grips, Own and Step.
func TestGripErrors(t *testing.T) {
	good, bad := hand.Standard(), hand.Standard()
	bad.Top = 0
	a, b, wrong := chord("1.1"), chord("1.3"), chord("1.0")
	_, over, dense := many()
	for i, c := range []struct {
		h    api.Hand
		c    api.Chord
		g    string
		want api.Errno
		many api.Errno
	}{
		{bad, wrong, "1: 4", api.ErrHand, api.ErrHand},
		{good, wrong, "1: 4", api.ErrArg, api.ErrArg},
		{over, wrong, "1: 4", api.ErrArg, api.ErrArg},
		{over, dense, "19: 1 1 1 1", api.ErrGrip, api.ErrMany},
		{over, dense, "9: 1 1 1 1", api.OK, api.ErrMany},
		{good, a, "1: 4", api.ErrGrip, api.OK},
		{good, a, "1:", api.ErrGrip, api.OK},
		{good, a, "1: 1 1", api.ErrGrip, api.OK},
		{good, a, "0: 1", api.ErrGrip, api.OK},
		{good, a, "13: 1", api.ErrGrip, api.OK},
		{good, a, "1: 0", api.ErrGrip, api.OK},
		{good, a, "1: 5", api.ErrGrip, api.OK},
	} {
		if cost, e := hand.Own(c.h, c.c, grip(c.g)); e != c.want || cost != 0 && e != api.OK {
			t.Errorf("%d: Own = %d, %d", i, cost, e)
		}
		if l, e := hand.Grips(c.h, c.c); e != c.many || len(l) > 0 && e != api.OK {
			t.Errorf("%d: Grips = %v, %d", i, l, e)
		}
	}
	for i, c := range []struct {
		h    api.Hand
		a    api.Chord
		g    string
		b    api.Chord
		k    string
		want api.Errno
	}{
		{bad, wrong, "1: 1", b, "1: 3", api.ErrHand},
		{good, wrong, "1: 1", b, "1: 3", api.ErrArg},
		{good, a, "1: 1", wrong, "1: 3", api.ErrArg},
		{good, a, "0: 1", chord("1.3 h1"), "0: 3", api.ErrArg}, // held, but not from there
		{good, chord("1.1 h1"), "1: 1", b, "1: 3", api.OK},     // Held of a does not matter
		{good, chord("1.1 h2"), "1: 1", b, "1: 3", api.ErrArg},
		{good, a, "0: 1", b, "1: 3", api.ErrGrip},
		{good, a, "1: 1", b, "1: 1", api.ErrGrip},
		{over, dense, "9: 1 1 1 1", dense, "9: 1 1 1 1", api.OK},
	} {
		if cost, e := hand.Step(c.h, c.a, grip(c.g), c.b, grip(c.k)); e != c.want || cost != 0 && e != api.OK {
			t.Errorf("%d: Step = %d, %d; it should be %d", i, cost, e, c.want)
		}
	}
}

// R5: grips of any numbers.
func TestAnyGrip(t *testing.T) {
	h, c := hand.Standard(), chord("1.3")
	for _, pos := range hostile {
		for _, finger := range hostile {
			g := api.Grip{Pos: pos, Fingers: []int{finger}}
			fit := slices.ContainsFunc(allGrips(h, c), func(other api.Grip) bool { return sameGrip(g, other) })
			call := strconv.Itoa(pos) + ": " + strconv.Itoa(finger)
			if _, e := hand.Own(h, c, g); e == api.OK != fit {
				t.Errorf("Own of %s: %d", call, e)
			}
			if _, e := hand.Step(h, c, g, c, g); e == api.OK != fit {
				t.Errorf("Step of %s: %d", call, e)
			}
			if _, at, e := hand.Valid(h, []api.Chord{c}, []api.Grip{g}); e == api.OK != fit || at != 0 {
				t.Errorf("Valid of %s: %d", call, e)
			}
			if _, e := hand.Through(h, []api.Chord{c}, 0, g); e == api.OK != fit {
				t.Errorf("Through of %s: %d", call, e)
			}
		}
	}
}
