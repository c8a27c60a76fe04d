// Package lists has what several layers do with lists of any kind.
package lists

// Changed returns a new list of what change makes of each element.
func Changed[From, To any](list []From, change func(From) To) []To {
	result := make([]To, len(list))
	for i, x := range list {
		result[i] = change(x)
	}
	return result
}
