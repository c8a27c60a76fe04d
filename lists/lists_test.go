package lists_test

import (
	"slices"
	"strconv"
	"testing"

	"theorbo/lists"
)

func TestChanged(t *testing.T) {
	numbers := []int{3, 1, 2}
	texts := lists.Changed(numbers, strconv.Itoa)
	if !slices.Equal(texts, []string{"3", "1", "2"}) {
		t.Errorf("the texts are %q", texts)
	}
	same := lists.Changed(numbers, func(n int) int { return n })
	same[0] = 9
	if numbers[0] != 3 {
		t.Error("the new list shares memory with the old one")
	}
	for _, none := range [][]int{nil, {}} {
		if l := lists.Changed(none, strconv.Itoa); len(l) > 0 {
			t.Errorf("an empty list becomes %q", l)
		}
	}
}

// word is compared by its length alone.
type word string

func (w word) compare(other word) int { return len(w) - len(other) }

func shelfOf(words ...word) lists.Shelf[word] {
	s := lists.NewShelf(word.compare)
	for _, w := range words {
		s.Put(w)
	}
	return s
}

func wants(t *testing.T, got []word, want ...word) {
	t.Helper()
	if !slices.Equal(got, want) {
		t.Errorf("%q; it should be %q", got, want)
	}
}

func TestShelf(t *testing.T) {
	s := shelfOf("lute", "a", "cittern", "of", "guitar", "viol", "")
	wants(t, s.Items(), "", "a", "of", "viol", "lute", "guitar", "cittern")
	wants(t, s.Take(func(w word) bool { return len(w)%2 == 0 }), "", "of", "viol", "lute", "guitar")
	wants(t, s.Items(), "a", "cittern")
	wants(t, s.Take(func(word) bool { return false }))
	s.Put("the")
	for _, want := range []word{"a", "the", "cittern"} {
		if first, ok := s.TakeFirst(); !ok || first != want {
			t.Errorf("the first one is %q, %v; it should be %q", first, ok, want)
		}
	}
	if first, ok := s.TakeFirst(); ok || first != "" {
		t.Errorf("the first one of none is %q, %v", first, ok)
	}
	wants(t, s.Items())
	wants(t, s.Take(func(word) bool { return true }))
	s.Put("lute")
	wants(t, s.Items(), "lute")
}

// What a shelf returns, and a copy of it, do not change with it.
func TestShelfMemory(t *testing.T) {
	s := shelfOf("a", "of", "the")
	items, other := s.Items(), s.Copy()
	items[0] = "b"
	s.Put("")
	other.Put("lute")
	other.Put("viol")
	s.TakeFirst()
	s.TakeFirst()
	s.Put("in")
	wants(t, items, "b", "of", "the")
	wants(t, s.Items(), "in", "of", "the")
	wants(t, other.Items(), "a", "of", "the", "viol", "lute")
	taken := s.Take(func(w word) bool { return w == "of" })
	taken = append(taken, "lost")
	wants(t, s.Items(), "in", "the")
	wants(t, taken, "of", "lost")
}
