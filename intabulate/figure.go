package intabulate

import (
	"cmp"
	"slices"

	"theorbo/api"
	"theorbo/ints"
	"theorbo/voice"
)

// plain is the pick of a tone that stays as it is; other picks are the numbers of figures.
const plain = 0

// CheckTable returns ErrMany or ErrFigure unless all figures are valid.
func CheckTable(table []api.Figure) api.Errno {
	if len(table) > api.MaxFigures {
		return api.ErrMany
	}
	for _, f := range table {
		if !validFigure(f) {
			return api.ErrFigure
		}
	}
	return api.OK
}

func validFigure(f api.Figure) bool {
	if !isShift(f.Interval) || !ints.Within(len(f.Moves), 1, api.MaxMoves) || len(f.Shares) != len(f.Moves) {
		return false
	}
	for i, move := range f.Moves {
		if !isShift(move) || !ints.Within(f.Shares[i], 1, api.MaxShare) {
			return false
		}
	}
	return f.Moves[0] == 0
}

// check looks at a part and at a table of figures.
func check(part []api.Tone, table []api.Figure) api.Errno {
	return cmp.Or(voice.CheckParts([][]api.Tone{part}), CheckTable(table))
}

// fits reports whether a figure fits a tone of a part.
func fits(part []api.Tone, f api.Figure, k int) bool {
	if k == len(part)-1 {
		return false
	}
	tone, next := part[k], part[k+1]
	if next.From != tone.To || next.Pitch-tone.Pitch != f.Interval || (tone.To-tone.From)%whole(f) != 0 {
		return false
	}
	return !slices.ContainsFunc(f.Moves, func(move int) bool { return !isPitch(tone.Pitch + move) })
}

// whole returns the sum of the shares of a figure.
func whole(f api.Figure) int {
	sum := 0
	for _, share := range f.Shares {
		sum += share
	}
	return sum
}

// unit returns the length that one share has if a figure divides a tone.
func unit(tone api.Tone, f api.Figure) int {
	return (tone.To - tone.From) / whole(f)
}

// tonesOf returns the tones of a figure that fits a tone.
func tonesOf(tone api.Tone, f api.Figure) []api.Tone {
	tones := make([]api.Tone, len(f.Moves))
	from := tone.From
	for i, move := range f.Moves {
		to := from + unit(tone, f)*f.Shares[i]
		tones[i] = api.Tone{Pitch: tone.Pitch + move, From: from, To: to}
		from = to
	}
	return tones
}

// Fits returns the numbers of the figures that fit a tone.
func Fits(part []api.Tone, table []api.Figure, k int) ([]int, api.Errno) {
	if e := check(part, table); e != api.OK {
		return nil, e
	}
	if !ints.Within(k, 0, len(part)-1) {
		return nil, api.ErrArg
	}
	var numbers []int
	for i, f := range table {
		if fits(part, f, k) {
			numbers = append(numbers, i+1)
		}
	}
	return numbers, api.OK
}

// arePicks reports whether all numbers may be picks from a table.
func arePicks(picks []int, table []api.Figure) bool {
	return !slices.ContainsFunc(picks, func(pick int) bool { return !ints.Within(pick, plain, len(table)) })
}

// Divide replaces tones by figures.
func Divide(part []api.Tone, table []api.Figure, picks []int) ([]api.Tone, api.Errno) {
	if e := check(part, table); e != api.OK {
		return nil, e
	}
	if len(picks) != len(part) || !arePicks(picks, table) {
		return nil, api.ErrArg
	}
	var divided []api.Tone
	for k, pick := range picks {
		switch {
		case pick == plain:
			divided = append(divided, part[k])
		case fits(part, table[pick-1], k):
			divided = append(divided, tonesOf(part[k], table[pick-1])...)
		default:
			return nil, api.ErrFigure
		}
	}
	if len(divided) > api.MaxTones {
		return nil, api.ErrMany
	}
	return divided, api.OK
}

// Undivide is the inverse of Divide.
func Undivide(part []api.Tone, table []api.Figure, picks []int) ([]api.Tone, api.Errno) {
	if e := check(part, table); e != api.OK {
		return nil, e
	}
	if len(picks) > api.MaxTones || !arePicks(picks, table) {
		return nil, api.ErrArg
	}
	tones, enough := merged(part, table, picks)
	if !enough {
		return nil, api.ErrFigure
	}
	if again, e := Divide(tones, table, picks); e != api.OK || !slices.Equal(again, part) {
		return nil, api.ErrFigure
	}
	return tones, api.OK
}

// merged makes one tone of as many tones as each pick stands for, and reports whether these are all tones of the part.
func merged(part []api.Tone, table []api.Figure, picks []int) (tones []api.Tone, enough bool) {
	for _, pick := range picks {
		count := 1
		if pick != plain {
			count = len(table[pick-1].Moves)
		}
		if len(part) < count {
			return nil, false
		}
		first, last := part[0], part[count-1]
		tones = append(tones, api.Tone{Pitch: first.Pitch, From: first.From, To: last.To})
		part = part[count:]
	}
	return tones, len(part) == 0
}

// Adorn picks the first figure for each tone that fits and is not too fast.
func Adorn(part []api.Tone, table []api.Figure, least int) ([]int, api.Errno) {
	if e := check(part, table); e != api.OK {
		return nil, e
	}
	if !ints.Within(least, 1, api.MaxTime) {
		return nil, api.ErrArg
	}
	picks := make([]int, len(part))
	for k, tone := range part {
		picks[k] = 1 + slices.IndexFunc(table, func(f api.Figure) bool {
			return fits(part, f, k) && unit(tone, f)*slices.Min(f.Shares) >= least
		})
	}
	return picks, api.OK
}
