package tones_test

import (
	"math"
	"slices"
	"testing"

	"theorbo/api"
	"theorbo/tones"
)

// From decides before Pitch, and Pitch before To.
func TestCompare(t *testing.T) {
	inOrder := []api.Tone{
		{Pitch: 127, From: math.MinInt, To: math.MaxInt},
		{Pitch: 60, From: 0, To: 96},
		{Pitch: 60, From: 0, To: 97},
		{Pitch: 61, From: 0, To: 12},
		{Pitch: 0, From: 1, To: 2},
		{Pitch: 0, From: math.MaxInt, To: 0},
	}
	for i, a := range inOrder {
		for j, b := range inOrder {
			got := tones.Compare(a, b)
			if (got < 0) != (i < j) || (got > 0) != (i > j) {
				t.Errorf("Compare(%v, %v) = %d", a, b, got)
			}
		}
	}
	mixed := []api.Tone{inOrder[4], inOrder[2], inOrder[0], inOrder[5], inOrder[3], inOrder[1]}
	slices.SortFunc(mixed, tones.Compare)
	if !slices.Equal(mixed, inOrder) {
		t.Errorf("sorted: %v", mixed)
	}
}
