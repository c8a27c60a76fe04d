package piece_test

import (
	"slices"
	"testing"

	"theorbo/api"
	"theorbo/piece"
)

// P2.5: the sums of all durations, with the end behind them.
func TestOnsets(t *testing.T) {
	for _, p := range pieces(t) {
		want := []int{0}
		for _, d := range durations(p) {
			want = append(want, want[len(want)-1]+d)
		}
		if l, e := piece.Onsets(p); e != api.OK || !slices.Equal(l, want) {
			t.Fatalf("Onsets(%s) = %v, %d, want %v", shown(p), l, e, want)
		}
	}
	for _, c := range []struct {
		events []string
		want   []int
	}{
		{nil, []int{0}},
		{[]string{"4 %"}, []int{0, 48}},
		{[]string{"3 1/2h1", "4 ~", "- %"}, []int{0, 96, 144, 192}},
		{[]string{"4 1/0", "- 2/0", "5. 3/0", "|- ~", "7t 1/0", "- %"}, []int{0, 48, 96, 132, 168, 172, 176}},
	} {
		if l, e := piece.Onsets(made(c.events...)); e != api.OK || !slices.Equal(l, c.want) {
			t.Errorf("Onsets(%q) = %v, %d, want %v", c.events, l, e, c.want)
		}
	}
	for name, b := range broken() {
		if l, e := piece.Onsets(b.p); len(l) != 0 || e != b.e {
			t.Errorf("Onsets(%s) = %v, %d, want %d", name, l, e, b.e)
		}
	}
}

// P2.6: bar lines, also the one before the first event.
func TestMeasures(t *testing.T) {
	for _, c := range []struct {
		events []string
		want   []piece.Measure
	}{
		{nil, nil},
		{[]string{"4 %"}, []piece.Measure{{0, 1, 48}}},
		{[]string{"|4 1/0"}, []piece.Measure{{0, 1, 48}}},
		{[]string{"4 1/0", "5 ~"}, []piece.Measure{{0, 2, 72}}},
		{[]string{"|4 1/0", "|- ~", "5 %", "|- 1/0", "- 2/0", "1. 3/0"}, []piece.Measure{{0, 1, 48}, {1, 2, 72}, {3, 3, 624}}},
	} {
		if l, e := piece.Measures(made(c.events...)); e != api.OK || !slices.Equal(l, c.want) {
			t.Errorf("Measures(%q) = %v, %d, want %v", c.events, l, e, c.want)
		}
	}
	for _, p := range pieces(t) {
		var want []piece.Measure
		d := durations(p)
		for i := 0; i < len(d); {
			end := i + 1
			for end < len(d) && !p.Events[end].Bar {
				end++
			}
			want = append(want, piece.Measure{First: i, Events: end - i, Ticks: sum(d[i:end])})
			i = end
		}
		if l, e := piece.Measures(p); e != api.OK || !slices.Equal(l, want) {
			t.Fatalf("Measures(%s) = %v, %d, want %v", shown(p), l, e, want)
		}
	}
	for name, b := range broken() {
		if l, e := piece.Measures(b.p); len(l) != 0 || e != b.e {
			t.Errorf("Measures(%s) = %v, %d, want %d", name, l, e, b.e)
		}
	}
}
