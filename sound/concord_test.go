package sound_test

import (
	"math"
	"math/big"
	"math/rand/v2"
	"slices"
	"testing"

	"theorbo/api"
	"theorbo/sound"
)

// concord tells what a concord is as the document does, pair by pair, with numbers that cannot overflow.
func concord(pitches []int) bool {
	for _, low := range pitches {
		for _, high := range pitches {
			if low > high {
				continue
			}
			gap := new(big.Int).Sub(big.NewInt(int64(high)), big.NewInt(int64(low)))
			class := int(gap.Mod(gap, big.NewInt(12)).Int64())
			if slices.Contains([]int{1, 2, 10, 11}, class) {
				return false
			}
			if low == slices.Min(pitches) && !slices.Contains([]int{0, 3, 4, 7, 8, 9}, class) {
				return false
			}
		}
	}
	return true
}

// P5.9: the examples, the intervals, and what is allowed between upper pitches.
func TestConcordant(t *testing.T) {
	for _, c := range []struct {
		pitches []int
		want    bool
	}{
		{nil, true},
		{[]int{}, true},
		{[]int{61}, true},
		{[]int{-5, -5, -5}, true},
		{[]int{48, 55, 64}, true},
		{[]int{48, 53}, false},
		{[]int{48, 55, 60, 65}, false},
		// A fourth and a tritone between upper pitches.
		{[]int{48, 55, 60}, true},
		{[]int{48, 52, 57}, true},
		{[]int{48, 51, 57}, true},
		{[]int{48, 54}, false},
		// Seconds and sevenths between upper pitches that fit the lowest one, also over octaves.
		{[]int{48, 51, 52}, false},
		{[]int{48, 55, 57}, false},
		{[]int{48, 56, 69}, false},
		{[]int{48, 57, 67}, false},
		{[]int{48, 52, 75}, false},
		// The lowest pitch need not stand first.
		{[]int{53, 48}, false},
		{[]int{64, 55, 48}, true},
		{[]int{60, 65, 53}, true},
		// Any ints: the intervals are those of the numbers, not of what is left of them in 64 bits.
		{[]int{math.MinInt, math.MaxInt}, true},
		{[]int{math.MaxInt, math.MinInt + 1}, false},
		{[]int{math.MinInt + 3, math.MaxInt}, true},
		{[]int{math.MaxInt - 3, math.MaxInt, math.MinInt}, true},
		{[]int{-1, 0}, false},
		{[]int{-1, 3, 6}, true},
		{[]int{-13, -1, 11}, true},
	} {
		if concord(c.pitches) != c.want {
			t.Fatalf("the tests hear %v wrongly", c.pitches)
		}
		if got := sound.Concordant(c.pitches); got != c.want {
			t.Errorf("Concordant(%v) = %v", c.pitches, got)
		}
	}
	for interval := range 48 {
		want := slices.Contains([]int{0, 3, 4, 7, 8, 9}, interval%12)
		if sound.Concordant([]int{40, 40 + interval}) != want || sound.Concordant([]int{40 + interval, 40}) != want {
			t.Errorf("Concordant of the interval %d is not %v", interval, want)
		}
	}
}

// P5.9: all chords of three pitches within two octaves, and random ones.
func TestConcordantChords(t *testing.T) {
	for a := range 25 {
		for b := range 25 {
			for c := range 25 {
				if l := []int{a, b, c}; sound.Concordant(l) != concord(l) {
					t.Fatalf("Concordant(%v) = %v", l, !concord(l))
				}
			}
		}
	}
	r := rand.New(rand.NewPCG(11, 12))
	for range 5000 {
		var l []int
		for range r.IntN(6) {
			switch r.IntN(4) {
			case 0:
				l = append(l, int(r.Uint64()))
			case 1:
				l = append(l, hostile[r.IntN(len(hostile))])
			default:
				l = append(l, []int{0, 3, 4, 7, 8, 9}[r.IntN(6)]+12*r.IntN(5))
			}
		}
		if sound.Concordant(l) != concord(l) {
			t.Fatalf("Concordant(%v) = %v", l, !concord(l))
		}
	}
}

// P5.16: the order and repetitions do not matter, nor does a transposition; the list stays as it is.
func TestConcordantInvariance(t *testing.T) {
	r := rand.New(rand.NewPCG(13, 14))
	for range 3000 {
		var l []int
		for range 1 + r.IntN(4) {
			l = append(l, 40+[]int{0, 3, 4, 5, 7, 8, 9}[r.IntN(7)]+12*r.IntN(3))
		}
		kept, want := slices.Clone(l), sound.Concordant(l)
		other := append(slices.Clone(l), l[r.IntN(len(l))], l[r.IntN(len(l))])
		r.Shuffle(len(other), func(i, j int) { other[i], other[j] = other[j], other[i] })
		if sound.Concordant(other) != want {
			t.Fatalf("Concordant of %v and of %v", l, other)
		}
		for _, by := range []int{1, -40, -100, 11, 12, 1 << 40, math.MaxInt - slices.Max(l), math.MinInt, math.MinInt + 7 - slices.Min(l)} {
			moved := slices.Clone(l)
			for i := range moved {
				moved[i] += by
			}
			if sound.Concordant(moved) != want {
				t.Fatalf("Concordant of %v and of %v", l, moved)
			}
		}
		if !slices.Equal(l, kept) {
			t.Fatalf("Concordant has changed %v to %v", kept, l)
		}
	}
}

// P0.1: long lists take no longer than it takes to look at them.
func TestConcordantOfMany(t *testing.T) {
	l := make([]int, 4_000_000)
	for i := range l {
		l[i] = 60 + 12*i
	}
	if !sound.Concordant(l) {
		t.Error("octaves are no concord")
	}
	l[len(l)-1]--
	if sound.Concordant(l) {
		t.Error("a seventh is a concord")
	}
}

// P5.10: those of all strings, in order; silence is a concord.
func TestClashes(t *testing.T) {
	for _, c := range []struct{ columns, want string }{
		{"", ""},
		{"4 %; - 1/0", ""},
		{"4 1/0 2/0; - 1/2; - 1/5; - %; - 1/0 2/3", "{0 48 [62 67]} {96 144 [62 72]} {192 240 [65 67]}"},
		{"4 5/0 6/0; - ~; - 3/6 5/1", "{0 96 [43 48 55 60]} {96 144 [43 49 55 61 63]}"},
		{"4 1/2h1 6/0; - 2/3; - ~; - %", "{0 48 [43 55 69]} {48 144 [43 55 65 69]}"},
	} {
		l, e := sound.Clashes(lute(c.columns))
		wants(t, "Clashes of "+c.columns, l, e, c.want)
	}
	clashes, concords := 0, 0
	for _, p := range pieces() {
		all, _ := sound.Sonorities(p)
		var want []sound.Sonority
		for _, s := range all {
			if concord(s.Pitches) {
				concords++
			} else {
				clashes++
				want = append(want, s)
			}
		}
		if l, e := sound.Clashes(p); e != api.OK || !slices.EqualFunc(l, want, sameSonority) {
			t.Fatalf("Clashes of %s\n = %v, %d; it should be\n %v", shown(p), l, e, want)
		}
	}
	if clashes < 100 || concords < 100 {
		t.Errorf("only %d clashes and %d concords", clashes, concords)
	}
}
