package lists

import "slices"

// Shelf holds items in order. Of several equal ones the one that was put there last comes first.
type Shelf[T any] struct {
	compare func(a, b T) int
	items   []T
}

// NewShelf returns an empty shelf, whose items will be in the order that compare gives them.
func NewShelf[T any](compare func(a, b T) int) Shelf[T] {
	return Shelf[T]{compare: compare}
}

// Put puts an item in its place.
func (s *Shelf[T]) Put(item T) {
	i, _ := slices.BinarySearchFunc(s.items, item, s.compare)
	s.items = slices.Insert(s.items, i, item)
}

// TakeFirst removes the first item, if there is one, and returns it.
func (s *Shelf[T]) TakeFirst() (first T, ok bool) {
	if len(s.items) == 0 {
		return first, false
	}
	first, s.items = s.items[0], s.items[1:]
	return first, true
}

// Take removes the items of which which is true, and returns them in order.
func (s *Shelf[T]) Take(which func(T) bool) []T {
	var taken, left []T
	for _, item := range s.items {
		if which(item) {
			taken = append(taken, item)
		} else {
			left = append(left, item)
		}
	}
	s.items = left
	return taken
}

// Items returns the items in order.
func (s *Shelf[T]) Items() []T {
	return slices.Clone(s.items)
}

// Copy returns a shelf with the same items, which changes independently.
func (s *Shelf[T]) Copy() Shelf[T] {
	return Shelf[T]{s.compare, slices.Clone(s.items)}
}
