package intabulate

import (
	"cmp"

	"theorbo/api"
	"theorbo/instrument"
	"theorbo/ints"
	"theorbo/lists"
	"theorbo/voice"
)

func isShift(n int) bool {
	return ints.Within(n, -api.MaxShift, api.MaxShift)
}

func isPitch(n int) bool {
	return ints.Within(n, 0, api.MaxPitch)
}

// shifted returns tones that are higher by a number of semitones.
func shifted(tones []api.Tone, by int) []api.Tone {
	return lists.Changed(tones, func(t api.Tone) api.Tone {
		t.Pitch += by
		return t
	})
}

// Transpose adds a number of semitones to all pitches.
func Transpose(parts [][]api.Tone, by int) ([][]api.Tone, api.Errno) {
	if e := voice.CheckParts(parts); e != api.OK {
		return nil, e
	}
	if !isShift(by) {
		return nil, api.ErrArg
	}
	for _, part := range parts {
		for _, t := range part {
			if !isPitch(t.Pitch + by) {
				return nil, api.ErrPart
			}
		}
	}
	return lists.Changed(parts, func(part []api.Tone) []api.Tone { return shifted(part, by) }), api.OK
}

// compass says of each pitch whether an instrument has a place for it.
type compass [api.MaxPitch + 1]bool

func compassOf(in api.Instrument) compass {
	var c compass
	for pitch := range c {
		places, _ := instrument.Places(in, pitch)
		c[pitch] = len(places) > 0
	}
	return c
}

// missing returns how many tones of parts have no place if they are shifted.
func (c *compass) missing(parts [][]api.Tone, shift int) int {
	count := 0
	for _, part := range parts {
		for _, t := range part {
			if pitch := t.Pitch + shift; !isPitch(pitch) || !c[pitch] {
				count++
			}
		}
	}
	return count
}

// Missing returns how many tones have no place.
func Missing(parts [][]api.Tone, in api.Instrument, shift int) (int, api.Errno) {
	if e := cmp.Or(voice.CheckParts(parts), instrument.Check(in)); e != api.OK {
		return 0, e
	}
	if !isShift(shift) {
		return 0, api.ErrArg
	}
	c := compassOf(in)
	return c.missing(parts, shift), api.OK
}

// Fit returns the transposition with which the fewest tones have no place.
func Fit(parts [][]api.Tone, in api.Instrument) (shift, missing int, e api.Errno) {
	if e := cmp.Or(voice.CheckParts(parts), instrument.Check(in)); e != api.OK {
		return 0, 0, e
	}
	c := compassOf(in)
	missing = c.missing(parts, 0)
	for far := 1; far <= api.MaxShift; far++ {
		for _, by := range [...]int{far, -far} {
			if count := c.missing(parts, by); count < missing {
				shift, missing = by, count
			}
		}
	}
	return shift, missing, api.OK
}
