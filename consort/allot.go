package consort

import (
	"cmp"
	"math"
	"slices"

	"theorbo/api"
	"theorbo/instrument"
	"theorbo/intabulate"
	"theorbo/ints"
	"theorbo/lists"
	"theorbo/voice"
)

// Allot gives each part to an instrument.
func Allot(parts [][]api.Tone, ins []api.Instrument, most int) (desks []int, missing int, e api.Errno) {
	if e := cmp.Or(voice.CheckParts(parts), checkCount(len(ins))); e != api.OK {
		return nil, 0, e
	}
	for _, in := range ins {
		if e := instrument.Check(in); e != api.OK {
			return nil, 0, e
		}
	}
	if !ints.Within(most, 1, api.MaxParts) {
		return nil, 0, api.ErrArg
	}
	if len(parts) > most*len(ins) {
		return nil, 0, api.ErrDesk
	}
	a := allotter{room: slices.Repeat([]int{most}, len(ins)), fewest: math.MaxInt}
	for _, part := range parts {
		a.missing = append(a.missing, lists.Changed(ins, func(in api.Instrument) int {
			count, _ := intabulate.Missing([][]api.Tone{part}, in, 0)
			return count
		}))
	}
	a.allot(0)
	return a.best, a.fewest, api.OK
}

// allotter tries the ways to give parts to instruments.
type allotter struct {
	missing [][]int // of each part, how many of its tones have no place on each instrument
	room    []int   // how many more parts each instrument may get
	desks   []int   // the instruments of the parts that are given so far
	best    []int
	fewest  int // how many tones have no place with the best list
}

// allot gives away the parts that are left; so many tones of the others have no place. The lists are tried in order: one that is not better than the best one comes behind it.
func (a *allotter) allot(missing int) {
	if missing >= a.fewest {
		return
	}
	part := len(a.desks)
	if part == len(a.missing) {
		a.best, a.fewest = slices.Clone(a.desks), missing
		return
	}
	for desk, count := range a.missing[part] {
		if a.room[desk] == 0 {
			continue
		}
		a.room[desk]--
		a.desks = append(a.desks, desk)
		a.allot(missing + count)
		a.desks = a.desks[:part]
		a.room[desk]++
	}
}
