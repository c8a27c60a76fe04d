package intabulate

import (
	"slices"

	"theorbo/api"
	"theorbo/piece"
	"theorbo/voice"
)

// Times returns the times at which events begin, and the end.
func Times(parts [][]api.Tone) ([]int, api.Errno) {
	tones, e := voice.Sounds(parts)
	if e != api.OK {
		return nil, e
	}
	times := []int{0}
	end := 0 // of the tones so far
	for _, t := range tones {
		if t.From > end {
			times = append(times, end)
		}
		times = append(times, t.From)
		end = max(end, t.To)
	}
	times = append(times, end)
	return slices.Compact(times), api.OK
}

// signsBetween returns for each of the times but the last one the signs of the events up to the next one.
func signsBetween(times []int) ([][]api.Sign, api.Errno) {
	var all [][]api.Sign
	events := 0
	for i, to := range times[1:] {
		signs, e := piece.Signs(to - times[i])
		if e != api.OK {
			return nil, api.ErrTime
		}
		all = append(all, signs)
		events += len(signs)
	}
	if events > api.MaxEvents {
		return nil, api.ErrMany
	}
	return all, api.OK
}
