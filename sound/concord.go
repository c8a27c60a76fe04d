package sound

import "slices"

// Concordant reports whether pitches are a concord.
func Concordant(pitches []int) bool {
	if len(pitches) == 0 {
		return true
	}
	lowest := slices.Min(pitches)
	var above [octave]bool // the intervals above the lowest pitch that occur
	for _, pitch := range pitches {
		above[interval(lowest, pitch)] = true
	}
	// How often and in which octave a pitch stands there does not matter any more.
	for upper, occurs := range above {
		if !occurs {
			continue
		}
		if !consonant(upper) {
			return false
		}
		for other, occurs := range above {
			if occurs && dissonant(interval(other, upper)) {
				return false
			}
		}
	}
	return true
}

// interval returns the interval from one pitch to another, modulo 12.
func interval(from, to int) int {
	// The difference of two ints may overflow, that of their remainders cannot.
	return (to%octave - from%octave + 2*octave) % octave
}

// consonant reports whether an interval above the lowest pitch belongs to a concord.
func consonant(interval int) bool {
	switch interval {
	case 0, 3, 4, 7, 8, 9:
		return true
	}
	return false
}

// dissonant reports whether an interval between two pitches is a second or a seventh, whichever of them is the lower one.
func dissonant(interval int) bool {
	switch interval {
	case 1, 2, 10, 11:
		return true
	}
	return false
}
