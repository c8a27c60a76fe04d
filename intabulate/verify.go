package intabulate

import (
	"cmp"

	"theorbo/api"
	"theorbo/ints"
	"theorbo/piece"
	"theorbo/sound"
	"theorbo/voice"
)

// compareLosses orders losses by their tones, and those of one tone by their kinds.
func compareLosses(a, b api.Loss) int {
	return cmp.Or(cmp.Compare(a.Part, b.Part), cmp.Compare(a.Tone, b.Tone), cmp.Compare(a.Kind, b.Kind))
}

// fate is what losses say of a tone.
type fate struct {
	dropped, doubled, cut bool
	cutAt                 int
}

// fates returns what the losses say of each tone, unless they are not in order, or one of them is not valid by itself.
func fates(parts [][]api.Tone, losses []api.Loss) (all [][]fate, ok bool) {
	for _, part := range parts {
		all = append(all, make([]fate, len(part)))
	}
	for i, l := range losses {
		if !ints.Within(l.Part, 0, len(parts)-1) || !ints.Within(l.Tone, 0, len(parts[l.Part])-1) {
			return nil, false
		}
		if i > 0 && compareLosses(losses[i-1], l) >= 0 {
			return nil, false
		}
		if l.Kind != api.Cut && l.Time != parts[l.Part][l.Tone].From {
			return nil, false
		}
		f := &all[l.Part][l.Tone]
		switch l.Kind {
		case api.Dropped:
			f.dropped = true
		case api.Doubled:
			f.doubled = true
		case api.Cut:
			f.cut, f.cutAt = true, l.Time
		default:
			return nil, false
		}
	}
	return all, true
}

// beginning tells the stops of a piece apart.
type beginning struct {
	from  int
	place api.Place
}

// listener compares tones with the notes that a piece plays.
type listener struct {
	shift int
	notes map[beginning]api.Note
	heard map[beginning]bool
}

func newListener(s api.Setting) listener {
	l := listener{shift: s.Shift, notes: map[beginning]api.Note{}, heard: map[beginning]bool{}}
	notes, _ := sound.Notes(s.Piece)
	for _, ev := range s.Piece.Events {
		for _, st := range ev.Stops {
			l.notes[beginning{notes[0].From, api.Place{Course: st.Course, Fret: st.Fret}}] = notes[0]
			notes = notes[1:]
		}
	}
	return l
}

// hears reports whether a tone is played at a place, or is not, as its fate says.
func (l *listener) hears(t api.Tone, pl api.Place, f fate) bool {
	if f.dropped {
		return !f.doubled && !f.cut && isNowhere(pl)
	}
	b := beginning{t.From, pl}
	n, played := l.notes[b]
	if !played || n.Pitch != t.Pitch+l.shift || l.heard[b] != f.doubled {
		return false
	}
	l.heard[b] = true
	if f.cut {
		return n.To == f.cutAt && n.To < t.To
	}
	return n.To >= t.To
}

// arePlaced reports whether there is a place for each tone.
func arePlaced(parts [][]api.Tone, where [][]api.Place) bool {
	if len(where) != len(parts) {
		return false
	}
	for i, part := range parts {
		if len(where[i]) != len(part) {
			return false
		}
	}
	return true
}

// Verify returns ErrLoss unless a setting plays what it declares.
func Verify(parts [][]api.Tone, s api.Setting) api.Errno {
	_, e := verified(parts, s)
	return e
}

// verified returns the fates of all tones of a setting that plays what it declares.
func verified(parts [][]api.Tone, s api.Setting) ([][]fate, api.Errno) {
	if e := cmp.Or(voice.CheckParts(parts), piece.Check(s.Piece)); e != api.OK {
		return nil, e
	}
	if !isShift(s.Shift) || !arePlaced(parts, s.Where) {
		return nil, api.ErrArg
	}
	all, ok := fates(parts, s.Losses)
	if !ok {
		return nil, api.ErrLoss
	}
	l := newListener(s)
	for i, part := range parts {
		for k, t := range part {
			if !l.hears(t, s.Where[i][k], all[i][k]) {
				return nil, api.ErrLoss
			}
		}
	}
	if len(l.heard) < len(l.notes) {
		return nil, api.ErrLoss
	}
	return all, api.OK
}

// Left returns the parts as they are played.
func Left(parts [][]api.Tone, s api.Setting) ([][]api.Tone, api.Errno) {
	all, e := verified(parts, s)
	if e != api.OK {
		return nil, e
	}
	left := make([][]api.Tone, len(parts))
	for i, part := range parts {
		for k, t := range part {
			f := all[i][k]
			if f.dropped {
				continue
			}
			if f.cut {
				t.To = f.cutAt
			}
			left[i] = append(left[i], t)
		}
		left[i] = shifted(left[i], s.Shift)
	}
	return left, api.OK
}

// Lost returns how many tones were dropped, doubled and cut.
func Lost(s api.Setting) (dropped, doubled, cut int) {
	for _, l := range s.Losses {
		switch l.Kind {
		case api.Dropped:
			dropped++
		case api.Doubled:
			doubled++
		case api.Cut:
			cut++
		}
	}
	return dropped, doubled, cut
}
