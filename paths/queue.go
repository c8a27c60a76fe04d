package paths

import "slices"

// queue holds items in the order that compare gives them.
type queue[T any] struct {
	compare func(a, b T) int
	items   []T
}

func (q *queue[T]) put(item T) {
	i, _ := slices.BinarySearchFunc(q.items, item, q.compare)
	q.items = slices.Insert(q.items, i, item)
}

// take returns the first item, if there is one, and removes it.
func (q *queue[T]) take() (first T, ok bool) {
	if len(q.items) == 0 {
		return first, false
	}
	first, q.items = q.items[0], q.items[1:]
	return first, true
}
