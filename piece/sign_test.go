package piece_test

import (
	"math"
	"slices"
	"testing"

	"theorbo/api"
	"theorbo/piece"
)

// P2.1: every sign.
func TestTicks(t *testing.T) {
	for name, want := range ticksOf {
		if n := piece.Ticks(signed(name)); n != want {
			t.Errorf("Ticks(%s) = %d, want %d", name, n, want)
		}
	}
}

// P2.1: signs that are not valid have no ticks, and neither has the zero Sign.
func TestTicksOfNone(t *testing.T) {
	for _, s := range []api.Sign{
		{}, {Dot: true}, {Three: true}, {Dot: true, Three: true},
		{Value: 1, Dot: true, Three: true}, {Value: 4, Dot: true, Three: true}, {Value: 7, Dot: true, Three: true},
	} {
		if n := piece.Ticks(s); n != 0 {
			t.Errorf("Ticks(%v) = %d", s, n)
		}
	}
	for _, value := range append([]int{8, 9, 63, 64, 65, -63, -64}, hostile...) {
		for _, s := range []api.Sign{{Value: value}, {Value: value, Dot: true}, {Value: value, Three: true}, {Value: value, Dot: true, Three: true}} {
			if value >= 1 && value <= 7 {
				continue
			}
			if n := piece.Ticks(s); n != 0 {
				t.Errorf("Ticks(%v) = %d", s, n)
			}
		}
	}
}

// bestSigns returns for each number of ticks what Signs returns: of the shortest lists, the one that is greatest from the front.
func bestSigns() [][]int {
	all := slices.Sorted(func(yield func(int) bool) {
		for _, n := range ticksOf {
			if !yield(n) {
				return
			}
		}
	})
	slices.Reverse(all)
	best := [][]int{{}}
	for n := 1; n <= 4608; n++ {
		var list []int
		for _, s := range all {
			if s > n || best[n-s] == nil {
				continue
			}
			l := append([]int{s}, best[n-s]...)
			slices.SortFunc(l, func(a, b int) int { return b - a })
			if list == nil || len(l) < len(list) || len(l) == len(list) && slices.Compare(l, list) > 0 {
				list = l
			}
		}
		best = append(best, list)
	}
	return best
}

// P2.2: all numbers of ticks.
func TestSigns(t *testing.T) {
	for n, want := range bestSigns() {
		l, e := piece.Signs(n)
		if want == nil {
			if e != api.ErrTime || len(l) != 0 {
				t.Errorf("Signs(%d) = %v, %d, want ErrTime", n, l, e)
			}
			continue
		}
		var got []int
		for _, s := range l {
			got = append(got, ticksOf[shownSign(s)])
		}
		if e != api.OK || !slices.Equal(got, want) {
			t.Fatalf("Signs(%d) = %v, %d, want %v", n, l, e, want)
		}
	}
}

// P2.2: lists as they are written out, and what has none.
func TestSignsWritten(t *testing.T) {
	for n, want := range map[int][]string{
		0: {}, 4: {"7t"}, 6: {"7"}, 8: {"6t"}, 9: {"7."}, 10: {"7", "7t"}, 120: {"3", "5"}, 90: {"4.", "6."},
		576: {"1."}, 580: {"1.", "7t"}, 384: {"1"}, 13: {"7.", "7t"}, 768: {"1.", "2"}, 160: {"3.", "5t"}, 256: {"1t"},
		4608: {"1.", "1.", "1.", "1.", "1.", "1.", "1.", "1."},
	} {
		l, e := piece.Signs(n)
		var got []string
		for _, s := range l {
			got = append(got, shownSign(s))
		}
		if e != api.OK || !slices.Equal(got, want) {
			t.Errorf("Signs(%d) = %v, %d, want %v", n, got, e, want)
		}
	}
	for _, n := range []int{1, 2, 3, 5, 7, 11} {
		if l, e := piece.Signs(n); len(l) != 0 || e != api.ErrTime {
			t.Errorf("Signs(%d) = %v, %d", n, l, e)
		}
	}
	for _, n := range []int{-1, 4609, 1 << 40, math.MinInt, math.MaxInt} {
		if l, e := piece.Signs(n); len(l) != 0 || e != api.ErrArg {
			t.Errorf("Signs(%d) = %v, %d", n, l, e)
		}
	}
}

// R4: a list of signs is the caller's own.
func TestSignsAreNew(t *testing.T) {
	for _, n := range []int{4, 120, 4607} {
		a, _ := piece.Signs(n)
		kept := slices.Clone(a)
		for i := range a[:cap(a)] {
			a[:cap(a)][i] = api.Sign{Value: 99}
		}
		if b, _ := piece.Signs(n); !slices.Equal(b, kept) {
			t.Errorf("Signs(%d) = %v after its first result was changed, want %v", n, b, kept)
		}
	}
}
