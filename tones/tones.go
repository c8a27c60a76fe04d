// Package tones has what several layers do with tones.
package tones

import (
	"cmp"

	"theorbo/api"
)

// Compare orders tones by From, then by Pitch, then by To.
func Compare(a, b api.Tone) int {
	return cmp.Or(cmp.Compare(a.From, b.From), cmp.Compare(a.Pitch, b.Pitch), cmp.Compare(a.To, b.To))
}
