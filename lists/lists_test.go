package lists_test

import (
	"slices"
	"strconv"
	"testing"

	"theorbo/lists"
)

func TestChanged(t *testing.T) {
	numbers := []int{3, 1, 2}
	texts := lists.Changed(numbers, strconv.Itoa)
	if !slices.Equal(texts, []string{"3", "1", "2"}) {
		t.Errorf("the texts are %q", texts)
	}
	same := lists.Changed(numbers, func(n int) int { return n })
	same[0] = 9
	if numbers[0] != 3 {
		t.Error("the new list shares memory with the old one")
	}
	for _, none := range [][]int{nil, {}} {
		if l := lists.Changed(none, strconv.Itoa); len(l) > 0 {
			t.Errorf("an empty list becomes %q", l)
		}
	}
}
