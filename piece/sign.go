package piece

import "theorbo/api"

const (
	breve     = 384 // the ticks of the longest value
	lastValue = 7
	shortest  = 4 // the ticks of the shortest sign
)

// signs are all signs, in descending order of their ticks; no two have the same ticks.
var signs = [...]api.Sign{
	{Value: 1, Dot: true},
	{Value: 1},
	{Value: 2, Dot: true},
	{Value: 1, Three: true},
	{Value: 2},
	{Value: 3, Dot: true},
	{Value: 2, Three: true},
	{Value: 3},
	{Value: 4, Dot: true},
	{Value: 3, Three: true},
	{Value: 4},
	{Value: 5, Dot: true},
	{Value: 4, Three: true},
	{Value: 5},
	{Value: 6, Dot: true},
	{Value: 5, Three: true},
	{Value: 6},
	{Value: 7, Dot: true},
	{Value: 6, Three: true},
	{Value: 7},
	{Value: 7, Three: true},
}

// Ticks returns the ticks of a sign.
func Ticks(s api.Sign) int {
	if !written(s) || !validSign(s) {
		return 0
	}
	ticks := breve >> (s.Value - 1)
	switch {
	case s.Dot:
		return ticks * 3 / 2
	case s.Three:
		return ticks * 2 / 3
	}
	return ticks
}

func validSign(s api.Sign) bool {
	if !written(s) {
		return true
	}
	return s.Value >= 1 && s.Value <= lastValue && !(s.Dot && s.Three)
}

func written(s api.Sign) bool {
	return s != api.Sign{}
}

// signOf returns the sign that has a number of ticks.
func signOf(ticks int) (api.Sign, bool) {
	for _, s := range signs {
		if Ticks(s) == ticks {
			return s, true
		}
	}
	return api.Sign{}, false
}

// Signs returns the fewest signs that add up to a number of ticks.
func Signs(ticks int) ([]api.Sign, api.Errno) {
	if ticks < 0 || ticks > api.MaxTicks {
		return nil, api.ErrArg
	}
	var chosen []api.Sign
	// fill adds as many signs as count says, none longer than the one at from, that add up to rest.
	var fill func(rest, from, count int) bool
	fill = func(rest, from, count int) bool {
		if count == 0 {
			return rest == 0
		}
		for i := from; i < len(signs); i++ {
			length := Ticks(signs[i])
			if length > rest {
				continue
			}
			// From here on the signs are too short to reach the rest.
			if length*count < rest {
				return false
			}
			chosen = append(chosen, signs[i])
			if fill(rest-length, i, count-1) {
				return true
			}
			chosen = chosen[:len(chosen)-1]
		}
		return false
	}
	for count := 0; count*shortest <= ticks; count++ {
		if fill(ticks, 0, count) {
			return chosen, api.OK
		}
	}
	return nil, api.ErrTime
}
