package consort

import (
	"cmp"
	"iter"
	"slices"

	"theorbo/api"
	"theorbo/lists"
	"theorbo/piece"
	"theorbo/sound"
	"theorbo/tones"
)

// cues goes through the events of all desks of a valid consort, desk by desk.
func cues(c api.Consort) iter.Seq[api.Cue] {
	return func(yield func(api.Cue) bool) {
		for desk, p := range c.Pieces {
			onsets, _ := piece.Onsets(p)
			for event := range p.Events {
				if !yield(api.Cue{Time: onsets[event], Desk: desk, Event: event}) {
					return
				}
			}
		}
	}
}

// Score returns a cue for each event of each desk.
func Score(c api.Consort) ([]api.Cue, api.Errno) {
	if e := Check(c); e != api.OK {
		return nil, e
	}
	return slices.SortedFunc(cues(c), func(a, b api.Cue) int {
		return cmp.Or(cmp.Compare(a.Time, b.Time), cmp.Compare(a.Desk, b.Desk))
	}), api.OK
}

// Sounds returns the tones of all desks, in order.
func Sounds(c api.Consort) ([]api.Tone, api.Errno) {
	if e := Check(c); e != api.OK {
		return nil, e
	}
	var all []api.Tone
	for _, p := range c.Pieces {
		own, _ := sound.Tones(p)
		all = append(all, own...)
	}
	slices.SortFunc(all, tones.Compare)
	return all, api.OK
}

// Discords returns the times at which a note begins and what sounds is no concord.
func Discords(c api.Consort) ([]int, api.Errno) {
	if e := Check(c); e != api.OK {
		return nil, e
	}
	var times []int
	for cue := range cues(c) {
		if len(c.Pieces[cue.Desk].Events[cue.Event].Stops) > 0 {
			times = append(times, cue.Time)
		}
	}
	slices.Sort(times)
	sonorities := lists.Changed(c.Pieces, func(p api.Piece) []sound.Sonority {
		own, _ := sound.Sonorities(p)
		return own
	})
	return slices.DeleteFunc(slices.Compact(times), func(t int) bool {
		return sound.Concordant(pitchesAt(sonorities, t))
	}), api.OK
}

// pitchesAt returns the pitches of all desks that sound at a time before the end. What sound.At returns is looked up in the sonorities: it would go through the whole piece for each time.
func pitchesAt(sonorities [][]sound.Sonority, t int) []int {
	var pitches []int
	for _, own := range sonorities {
		later, _ := slices.BinarySearchFunc(own, t+1, func(s sound.Sonority, t int) int { return cmp.Compare(s.From, t) })
		pitches = append(pitches, own[later-1].Pitches...)
	}
	return pitches
}
