package voice

import (
	"slices"

	"theorbo/api"
	"theorbo/ints"
)

// Valid returns the crossings and the motion of an assignment, or the first note at which it is not valid.
func Valid(l api.Limits, notes []api.Note, voices []int) (v api.Voicing, at int, e api.Errno) {
	if e := check(l, notes); e != api.OK {
		return api.Voicing{}, 0, e
	}
	if len(voices) != len(notes) {
		return api.Voicing{}, 0, api.ErrArg
	}
	s := newSearch(l, notes)
	cost := 0
	var last situation
	for number := range s.events {
		m, at, e := s.given(number, s.found(number, last), voices)
		if e != api.OK {
			return api.Voicing{}, at, e
		}
		cost += m.cost
		last = m.last
	}
	return voicing(slices.Clone(voices), cost), 0, api.OK
}

// given returns the move that gives the notes of an event their voices, or the first note at which it is not valid.
func (s *search) given(number int, before situation, voices []int) (m move, at int, e api.Errno) {
	ev := s.events[number]
	last, motion := before, 0
	for note := ev.first; note < ev.behind; note++ {
		if !ints.Within(voices[note], 1, len(s.limits.Low)) {
			return move{}, note, api.ErrVoice
		}
		voice := voices[note] - 1
		change, possible := s.change(before[voice], note, voice)
		if !possible || last[voice] != before[voice] {
			return move{}, note, api.ErrVoice
		}
		last[voice] = int16(note + 1)
		motion += change
	}
	m, possible := s.move(number, last, motion)
	if !possible {
		return move{}, ev.behind - 1, api.ErrVoice
	}
	return m, 0, api.OK
}

// voicing returns an assignment with the numbers of which its cost is made.
func voicing(voices []int, cost int) api.Voicing {
	return api.Voicing{Voices: voices, Crossings: cost / crossingCost, Motion: cost % crossingCost}
}
