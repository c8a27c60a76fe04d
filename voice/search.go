package voice

import (
	"iter"

	"theorbo/api"
	"theorbo/ints"
)

// crossingCost is the cost of a crossing: more than all motion, of which the cost of a semitone is 1.
const crossingCost = api.MaxNotes*api.MaxPitch + 1

// none, in a situation, says that a voice has no last note.
const none = 0

// situation has for each voice the number of its last note, counted from 1, or none.
type situation [api.MaxVoices]int16

// event is an event that has notes: those from the number first up to behind, without this one.
type event struct {
	first, behind int
}

// move is a way to assign the notes of an event: the last notes of the voices, with those of this event, and the cost.
type move struct {
	last situation
	cost int
}

// layer has the situations to which valid assignments lead, each with its number, and with the number of these assignments, which is at most MaxCount.
type layer struct {
	numbers    map[situation]int
	situations []situation
	ways       []int
}

// search goes through a list of notes, event by event.
type search struct {
	limits api.Limits
	notes  []api.Note
	events []event
	layers []layer // before each event, and behind the last one
}

func newSearch(l api.Limits, notes []api.Note) *search {
	s := &search{limits: l, notes: notes}
	for i, n := range notes {
		if i == 0 || n.Event != notes[i-1].Event {
			s.events = append(s.events, event{first: i})
		}
		s.events[len(s.events)-1].behind = i + 1
	}
	return s
}

// add adds assignments that lead to a situation.
func (l *layer) add(to situation, ways int) {
	number, known := l.numbers[to]
	if !known {
		number = len(l.situations)
		l.numbers[to] = number
		l.situations = append(l.situations, to)
		l.ways = append(l.ways, 0)
	}
	l.ways[number] = min(l.ways[number]+ways, api.MaxCount)
}

// explore finds the layers. At the first event with an error it stops, and returns the number of the event.
func (s *search) explore() (at int, e api.Errno) {
	var beginning situation
	now := layer{numbers: map[situation]int{}}
	now.add(beginning, 1)
	s.layers = []layer{now}
	for number := range s.events {
		next := layer{numbers: map[situation]int{}}
		for i, from := range now.situations {
			for m := range s.moves(number, from) {
				next.add(s.found(number+1, m.last), now.ways[i])
				if len(next.situations) > api.MaxStates {
					return number, api.ErrMany
				}
			}
		}
		if len(next.situations) == 0 {
			return number, api.ErrNoVoices
		}
		s.layers = append(s.layers, next)
		now = next
	}
	return 0, api.OK
}

// found returns the situation in which an event finds the last notes of the voices. Behind the last event nothing depends on them, so there is one situation alone.
func (s *search) found(number int, last situation) situation {
	if number == len(s.events) {
		return situation{}
	}
	from := s.from(number)
	for voice, note := range last {
		if note != none && from > s.notes[note-1].To+s.limits.Gap {
			last[voice] = none
		}
	}
	return last
}

// from returns the time at which an event begins.
func (s *search) from(number int) int {
	return s.notes[s.events[number].first].From
}

// moves goes through the ways to assign the notes of an event in a situation, in the order of their voices.
func (s *search) moves(number int, before situation) iter.Seq[move] {
	return func(yield func(move) bool) {
		last := before
		// assign gives voices to the notes from one on, in all ways, and reports whether more are asked for.
		var assign func(note, motion int) bool
		assign = func(note, motion int) bool {
			if note == s.events[number].behind {
				m, possible := s.move(number, last, motion)
				return !possible || yield(m)
			}
			for voice := range s.limits.Low {
				change, possible := s.change(before[voice], note, voice)
				if !possible || last[voice] != before[voice] {
					continue
				}
				last[voice] = int16(note + 1)
				more := assign(note+1, motion+change)
				last[voice] = before[voice]
				if !more {
					return false
				}
			}
			return true
		}
		assign(s.events[number].first, 0)
	}
}

// change returns how far a voice moves from its last note to another one, and whether it may have this note.
func (s *search) change(last int16, note, voice int) (motion int, possible bool) {
	pitch := s.notes[note].Pitch
	if !ints.Within(pitch, s.limits.Low[voice], s.limits.High[voice]) {
		return 0, false
	}
	if last == none {
		return 0, true
	}
	motion = ints.Distance(pitch, s.notes[last-1].Pitch)
	return motion, motion <= s.limits.Leap
}

// move returns the move behind which the voices have these last notes, unless there are too many crossings.
func (s *search) move(number int, last situation, motion int) (m move, possible bool) {
	crossings := s.crossings(number, last)
	if crossings > s.limits.Cross {
		return move{}, false
	}
	return move{last, crossings*crossingCost + motion}, true
}

// crossings counts the crossings of an event whose notes are among the last ones of the voices.
func (s *search) crossings(number int, last situation) int {
	const silent = -1
	count := 0
	var pitches [api.MaxVoices]int
	for b, note := range last {
		pitches[b] = silent
		if note == none || s.notes[note-1].To <= s.from(number) {
			continue
		}
		pitches[b] = s.notes[note-1].Pitch
		for _, higher := range pitches[:b] {
			if higher != silent && higher < pitches[b] {
				count++
			}
		}
	}
	return count
}

// assigned writes the voices of the notes of an event behind which the voices have these last notes.
func (s *search) assigned(number int, last situation, voices []int) {
	for voice, note := range last {
		if int(note) > s.events[number].first {
			voices[note-1] = voice + 1
		}
	}
}
