package ints_test

import (
	"math"
	"testing"

	"theorbo/ints"
)

func TestWithin(t *testing.T) {
	for _, c := range []struct {
		n, least, greatest int
		want               bool
	}{
		{1, 1, 3, true}, {3, 1, 3, true}, {2, 1, 3, true}, {0, 1, 3, false}, {4, 1, 3, false},
		{5, 5, 5, true}, {5, 6, 4, false}, {-1, 0, -1, false},
		{math.MinInt, 0, math.MaxInt, false}, {math.MaxInt, math.MinInt, math.MaxInt, true},
	} {
		if got := ints.Within(c.n, c.least, c.greatest); got != c.want {
			t.Errorf("Within(%d, %d, %d) = %v", c.n, c.least, c.greatest, got)
		}
	}
}

func TestDistance(t *testing.T) {
	for _, c := range [][3]int{{3, 5, 2}, {5, 3, 2}, {4, 4, 0}, {-2, 3, 5}, {3, -2, 5}, {0, math.MaxInt, math.MaxInt}} {
		if got := ints.Distance(c[0], c[1]); got != c[2] {
			t.Errorf("Distance(%d, %d) = %d", c[0], c[1], got)
		}
	}
}
