// Package ints has what several layers compute with numbers.
package ints

// Within reports whether a number is from least to greatest.
func Within(n, least, greatest int) bool {
	return least <= n && n <= greatest
}

// Distance returns the difference of two numbers, taken as positive.
func Distance(a, b int) int {
	return max(a, b) - min(a, b)
}
