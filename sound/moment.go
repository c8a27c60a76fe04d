package sound

import (
	"slices"

	"theorbo/api"
)

// silent stands for the fret of a course on which nothing sounds.
const silent = -1

// Sonority is what sounds from one time to another.
type Sonority struct {
	From, To int
	Pitches  []int
}

func sounds(n api.Note, t int) bool {
	return n.From <= t && t < n.To
}

// Courses returns what is down, open or silent on each course.
func Courses(p api.Piece) ([][]int, api.Errno) {
	all, onsets, e := play(p)
	if e != api.OK {
		return nil, e
	}
	var rows [][]int
	var down [api.MaxCourses]played // on each course the last stop so far; the zero one never sounds
	for number, ev := range p.Events {
		// The stops of this event stand first among those that are left.
		for _, s := range all[:len(ev.Stops)] {
			down[s.note.Course-1] = s
		}
		all = all[len(ev.Stops):]
		row := make([]int, len(p.Instrument.Courses))
		for i := range row {
			row[i] = silent
			if sounds(down[i].note, onsets[number]) {
				row[i] = down[i].fret
			}
		}
		rows = append(rows, row)
	}
	return rows, api.OK
}

// At returns the pitches that sound at a time.
func At(p api.Piece, t int) ([]int, api.Errno) {
	strings, end, e := strung(p)
	if e != api.OK {
		return nil, e
	}
	if t < 0 || t >= end {
		return nil, api.ErrArg
	}
	return pitchesAt(strings, t), api.OK
}

// pitchesAt returns the different pitches that sound at a time, in ascending order.
func pitchesAt(strings []api.Note, t int) []int {
	sounding := map[int]bool{}
	for _, s := range strings {
		if sounds(s, t) {
			sounding[s.Pitch] = true
		}
	}
	var pitches []int
	for pitch := range sounding {
		pitches = append(pitches, pitch)
	}
	slices.Sort(pitches)
	return pitches
}

// Sonorities returns what sounds from each time to the next.
func Sonorities(p api.Piece) ([]Sonority, api.Errno) {
	strings, end, e := strung(p)
	if e != api.OK {
		return nil, e
	}
	times := turns(strings, end)
	var sonorities []Sonority
	for i, to := range times[1:] {
		sonorities = append(sonorities, Sonority{times[i], to, pitchesAt(strings, times[i])})
	}
	return sonorities, api.OK
}

// turns returns 0, the end, and all times at which a string begins or ends, in ascending order.
func turns(strings []api.Note, end int) []int {
	times := []int{0, end}
	for _, s := range strings {
		times = append(times, s.From, s.To)
	}
	slices.Sort(times)
	return slices.Compact(times)
}

// Clashes returns the sonorities that are no concords.
func Clashes(p api.Piece) ([]Sonority, api.Errno) {
	sonorities, e := Sonorities(p)
	if e != api.OK {
		return nil, e
	}
	return slices.DeleteFunc(sonorities, func(s Sonority) bool { return Concordant(s.Pitches) }), api.OK
}

// Ringing returns the notes that still sound when an event begins.
func Ringing(p api.Piece, event int) ([]api.Note, api.Errno) {
	all, onsets, e := play(p)
	if e != api.OK {
		return nil, e
	}
	if event < 0 || event >= len(p.Events) {
		return nil, api.ErrArg
	}
	var ringing []api.Note
	for _, n := range notesOf(all) {
		if t := onsets[event]; n.From < t && t < n.To {
			ringing = append(ringing, n)
		}
	}
	return ringing, api.OK
}
