package hand_test

import (
	"fmt"
	"math"
	"math/rand/v2"
	"slices"
	"testing"

	"theorbo/api"
	"theorbo/hand"
)

// leastCosts returns the table of the least costs by trying all fingerings from each chord on.
func leastCosts(k task) [][]int {
	var table [][]int
	for i := range k.l {
		all := allFingerings(k.h, k.l[i:])
		row := []int{}
		for _, g := range allGrips(k.h, k.l[i]) {
			least := -1
			if at := slices.IndexFunc(all, func(f api.Fingering) bool { return sameGrip(f.Grips[0], g) }); at >= 0 {
				least = all[at].Cost
			}
			row = append(row, least)
		}
		table = append(table, row)
	}
	return table
}

// P6.6: the example, the ends, and all that is small enough to try.
func TestProve(t *testing.T) {
	for text, want := range map[string]string{
		"":                 "[]",
		"1.1; 1.3":         "[[0] [2 0 0 0]]",
		"1.3; 1.2 3.2 o2":  "[[-1 -1 -1 -1] []]",
		"1.2 3.2 o2; 1.3":  "[[] [2 0 0 0]]",
		"1.3; 1.3 2.1 h1":  "[[4 0 7 -1] [2 0]]",
		"1.3; 1.17; 1.2; ": "[[-1 -1 -1 -1] [] [0 0] [0 0 0 0 0 0 0 0 0 0 0 0]]",
		"1.10 2.10 o5":     "[[2 2 4]]",
	} {
		table, e := hand.Prove(hand.Standard(), chords(text))
		wants(t, "Prove of "+text, fmt.Sprint(table), e, want)
	}
	elements := 0
	for _, k := range tasks() {
		want := leastCosts(k)
		table, e := hand.Prove(k.h, k.l)
		wants(t, "Prove of "+k.String(), fmt.Sprint(table), e, fmt.Sprint(want))
		for _, row := range want {
			elements += len(row)
		}
	}
	if elements < 3000 {
		t.Errorf("only %d elements", elements)
	}
}

// proves is the document's description, element by element. No number is large enough to overflow.
func proves(k task, table [][]int, cost int) bool {
	if len(table) != len(k.l) {
		return false
	}
	for i, row := range table {
		options := allGrips(k.h, k.l[i])
		if len(row) != len(options) {
			return false
		}
		for j, x := range row {
			if x < -1 || i == 0 && x != -1 && x < cost {
				return false
			}
			own := ownCost(k.h, k.l[i], options[j])
			if i == len(table)-1 {
				if x == -1 || x > own {
					return false
				}
				continue
			}
			next := allGrips(k.h, k.l[i+1])
			for m, y := range table[i+1] {
				if m >= len(next) {
					return false
				}
				step, possible := stepCost(k.h, k.l[i], options[j], k.l[i+1], next[m])
				if possible && (x == -1 && y != -1 || x != -1 && y != -1 && x > own+step+y) {
					return false
				}
			}
		}
	}
	return len(table) > 0 || cost <= 0
}

// altered returns a table that differs from another one in a few elements, or in its form.
func altered(r *rand.Rand, table [][]int) [][]int {
	var l [][]int
	for _, row := range table {
		l = append(l, slices.Clone(row))
	}
	for range r.IntN(4) {
		if len(l) == 0 {
			break
		}
		i := r.IntN(len(l))
		if len(l[i]) == 0 {
			continue
		}
		x := &l[i][r.IntN(len(l[i]))]
		switch r.IntN(8) {
		case 0:
			*x = -1
		case 1:
			*x = -2
		case 2, 3:
			*x += 1 + r.IntN(3)
		default:
			*x = max(-1, *x-r.IntN(5))
		}
	}
	switch i := r.IntN(12); {
	case i == 0:
		l = append(l, nil)
	case i == 1 && len(l) > 0:
		l = l[:len(l)-1]
	case i == 2 && len(l) > 0:
		l[r.IntN(len(l))] = []int{0}
	case i == 3 && len(l) > 0:
		j := r.IntN(len(l))
		l[j] = append(l[j], 0)
	}
	return l
}

// P6.7, P6.12: exactly the tables that the document describes; if one is accepted, no fingering costs less.
func TestProves(t *testing.T) {
	r := rand.New(rand.NewPCG(9, 10))
	accepted, rejected := 0, 0
	for _, k := range tasks()[:400] {
		exact, _ := hand.Prove(k.h, k.l)
		best, stuck := hand.Best(k.h, k.l)
		for range 12 {
			table := altered(r, exact)
			cost := best.Cost + r.IntN(5) - 3
			want := proves(k, table, cost)
			if got, e := hand.Proves(k.h, k.l, table, cost); e != api.OK || got != want {
				t.Fatalf("Proves of %v, %v, %d = %v, %d", k, table, cost, got, e)
			}
			if want && stuck == api.OK && best.Cost < cost {
				t.Fatalf("%v proves of %v that nothing costs less than %d, but %v does", table, k, cost, best)
			}
			if want {
				accepted++
			} else {
				rejected++
			}
		}
	}
	if accepted < 500 || rejected < 500 {
		t.Errorf("%d accepted, %d rejected", accepted, rejected)
	}
}

// P6.7: each condition alone, and the greatest numbers.
func TestProvesConditions(t *testing.T) {
	const most = math.MaxInt
	for _, c := range []struct {
		chords string
		table  [][]int
		cost   int
		want   bool
	}{
		{"1.1; 1.3", [][]int{{0}, {2, 0, 0, 0}}, 0, true},
		{"1.1; 1.3", [][]int{{0}, {2, 0, 0, 0}}, 1, false},
		{"1.1; 1.3", [][]int{{0}, {2, 0, 0, 0}}, math.MinInt, true},
		// 1: as many rows and elements as chords and grips.
		{"1.1; 1.3", nil, 0, false},
		{"1.1; 1.3", [][]int{{0}}, 0, false},
		{"1.1; 1.3", [][]int{{0}, {2, 0, 0, 0}, {}}, 0, false},
		{"1.1; 1.3", [][]int{{}, {2, 0, 0, 0}}, 0, false},
		{"1.1; 1.3", [][]int{{0, 0}, {2, 0, 0, 0}}, 0, false},
		{"1.1; 1.3", [][]int{{0}, {2, 0, 0}}, 0, false},
		{"1.1; 1.3", [][]int{{-2}, {2, 0, 0, 0}}, -5, false},
		{"1.1; 1.3", [][]int{{math.MinInt}, {2, 0, 0, 0}}, math.MinInt, false},
		// 2: in the last row no -1, and nothing above the own cost.
		{"1.1; 1.3", [][]int{{0}, {1, 0, 0, 0}}, 0, true},
		{"1.1; 1.3", [][]int{{0}, {3, 0, 0, 0}}, 0, false},
		{"1.1; 1.3", [][]int{{0}, {2, 0, 0, -1}}, 0, false},
		{"1.1; 1.3", [][]int{{0}, {2, 0, 0, most}}, 0, false},
		// 3: a -1 needs a -1 wherever there is a step, and a bound is at most what each step leads to.
		{"1.1; 1.3", [][]int{{-1}, {2, 0, 0, 0}}, 0, false},
		{"1.1; 1.3", [][]int{{1}, {2, 0, 0, 0}}, 0, false},
		{"1.1; 1.3; 1.17", [][]int{{-1}, {-1, -1, -1, -1}, {}}, most, true},
		{"1.1; 1.3; 1.17", [][]int{{-1}, {-1, -1, 0, -1}, {}}, 0, false},
		{"1.1; 1.3; 1.17", [][]int{{0}, {-1, -1, 0, -1}, {}}, 0, true},
		{"1.1; 1.3; 1.17", [][]int{{5}, {-1, -1, 0, -1}, {}}, 5, true},
		{"1.1; 1.3; 1.17", [][]int{{6}, {-1, -1, 0, -1}, {}}, 5, false},
		{"1.1; 1.3; 1.17", [][]int{{most}, {most, most, most, most}, {}}, most, true},
		{"1.1; 1.3; 1.17", [][]int{{most}, {most, most - 1, most, most}, {}}, most, false},
		{"1.1; 1.3; 1.17", [][]int{{most}, {-1, -1, -1, -1}, {}}, most, true},
		{"1.1; 1.3; 1.17", [][]int{{0}, {most, most, most, most}, {}}, 0, true},
		{"1.1; 1.3; 1.17", [][]int{{-1}, {most, most, most, most}, {}}, 0, false},
		// 4: in the first row -1, or at least the cost.
		{"1.3", [][]int{{2, 0, 0, 0}}, 0, true},
		{"1.3", [][]int{{2, 0, 0, 0}}, 1, false},
		{"1.3; 1.17", [][]int{{7, 8, -1, 9}, {}}, 7, true},
		{"1.3; 1.17", [][]int{{7, 8, -1, 9}, {}}, 8, false},
		{"1.17", [][]int{{}}, most, true},
		{"1.17", nil, 0, false},
		{"", nil, 0, true},
		{"", nil, -1, true},
		{"", nil, 1, false},
		{"", nil, most, false},
		{"", [][]int{{}}, 0, false},
	} {
		got, e := hand.Proves(hand.Standard(), chords(c.chords), c.table, c.cost)
		wants(t, fmt.Sprintf("Proves of %s, %v, %d", c.chords, c.table, c.cost), got, e, c.want)
	}
}

// P6.12: the table of Prove proves the cost of Best, and nothing greater.
func TestCertificate(t *testing.T) {
	for _, k := range tasks() {
		table, _ := hand.Prove(k.h, k.l)
		best, stuck := hand.Best(k.h, k.l)
		for _, cost := range slices.Concat(hostile, []int{best.Cost - 1, best.Cost, best.Cost + 1}) {
			got, e := hand.Proves(k.h, k.l, table, cost)
			wants(t, fmt.Sprintf("Proves of %v, %v, %d", k, table, cost), got, e, stuck != api.OK || cost <= best.Cost)
		}
	}
}

// P6.8: the examples, and other passages without a fingering.
func TestBlock(t *testing.T) {
	for _, c := range []struct {
		chords   string
		from, to int
		want     api.Errno
	}{
		{"1.3; 1.2 3.2 o2; 1.1", 1, 1, api.OK},
		{"1.1; 1.3", 0, 0, api.ErrNone},
		{"", 0, 0, api.ErrNone},
		{"1.17", 0, 0, api.OK},
		{"1.1; 1.17; 1.17; 1.1", 1, 1, api.OK},
		// The hand cannot move so far from one chord to the next, though it can play each.
		{"1.3; 1.1; 2.13; 1.1", 1, 2, api.OK},
		{"1.3; 1.1; ; 2.13; 1.1; 2.13", 3, 4, api.OK},
		{"2.13; 1.1; 1.17 2.17", 0, 1, api.OK},
		// The first one of the passage needs a finger above 1 on the course 5, the last one the finger 1; the finger stays.
		{"1.1; 5.5 6.4; 5.5 h5; 5.5 6.5 7.5 h5; 5.5 6.5 7.5 h5 h6", 1, 3, api.OK},
		{"5.5; 5.5 h5; 5.5 6.5 7.5 h5; 5.5 6.5 7.5 h5 h6; ; 1.17", 5, 5, api.OK},
	} {
		from, to, e := hand.Block(hand.Standard(), chords(c.chords))
		if from != c.from || to != c.to || e != c.want {
			t.Errorf("Block of %s = %d, %d, %d; it should be %d, %d, %d", c.chords, from, to, e, c.from, c.to, c.want)
		}
	}
}

// blockOf finds a passage without a fingering by trying all.
func blockOf(t *testing.T, k task) (from, to int) {
	t.Helper()
	for to = range k.l {
		if len(allFingerings(k.h, k.l[:to+1])) > 0 {
			continue
		}
		for from = to; from >= 0; from-- {
			if len(allFingerings(k.h, k.l[from:to+1])) == 0 {
				return from, to
			}
		}
	}
	t.Fatalf("%v is not blocked", k)
	return 0, 0
}

// P6.8: against all passages.
func TestBlockOfAll(t *testing.T) {
	lengths := map[int]int{}
	for _, k := range tasks() {
		from, to, e := hand.Block(k.h, k.l)
		if len(allFingerings(k.h, k.l)) > 0 {
			if from != 0 || to != 0 || e != api.ErrNone {
				t.Fatalf("Block of %v = %d, %d, %d", k, from, to, e)
			}
			continue
		}
		wantFrom, wantTo := blockOf(t, k)
		if from != wantFrom || to != wantTo || e != api.OK {
			t.Fatalf("Block of %v = %d, %d, %d; it should be %d, %d", k, from, to, e, wantFrom, wantTo)
		}
		// Without its first or its last chord the passage has a fingering.
		for _, part := range [][]api.Chord{k.l[from+1 : to+1], k.l[from:to]} {
			if _, e := hand.Best(k.h, part); e != api.OK {
				t.Fatalf("Best of %v playing %v: %d", k.h, part, e)
			}
		}
		lengths[to-from]++
	}
	if lengths[0] < 50 || lengths[1] < 50 || lengths[2] < 5 {
		t.Errorf("the lengths of the passages are %v", lengths)
	}
}
