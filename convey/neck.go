package convey

import (
	"slices"

	"theorbo/api"
	"theorbo/instrument"
	"theorbo/piece"
)

// Retune returns a piece for the instrument with one course tuned differently.
func Retune(p api.Piece, course, by int) (api.Piece, []api.Lack, api.Errno) {
	if e := piece.Check(p); e != api.OK {
		return api.Piece{}, nil, e
	}
	tuned, e := instrument.Tune(p.Instrument, course, by)
	if e != api.OK {
		return api.Piece{}, nil, e
	}
	q, lost := carry(p, tuned, changeOfNotes(eachStop(func(st api.Stop) api.Stop {
		if st.Course != course {
			return st
		}
		pitch, _ := instrument.At(p.Instrument, placeOf(st))
		places, _ := instrument.Places(tuned, pitch)
		at := slices.IndexFunc(places, func(pl api.Place) bool { return pl.Course == course })
		if at < 0 {
			return api.Stop{}
		}
		st.Fret = places[at].Fret
		return st
	})))
	return q, lost, api.OK
}

// Capo returns a piece for the instrument with a capo.
func Capo(p api.Piece, fret int) (api.Piece, []api.Lack, api.Errno) {
	if e := piece.Check(p); e != api.OK {
		return api.Piece{}, nil, e
	}
	capped, e := instrument.Capo(p.Instrument, fret)
	if e != api.OK {
		return api.Piece{}, nil, e
	}
	q, lost := carry(p, capped, alongNeck(p.Instrument, -fret))
	return q, lost, api.OK
}

// alongNeck is the change that moves the notes on the courses with frets of an instrument by a number of frets. A note that has no such fret is left out.
func alongNeck(in api.Instrument, by int) change {
	return changeOfNotes(eachStop(func(st api.Stop) api.Stop {
		frets := in.Courses[st.Course-1].Frets
		if frets == 0 {
			return st
		}
		st.Fret += by
		if st.Fret < 0 || st.Fret > frets {
			return api.Stop{}
		}
		return st
	}))
}

// Release takes the capo off.
func Release(p api.Piece, in api.Instrument, fret int) (api.Piece, api.Errno) {
	if e := piece.Check(p); e != api.OK {
		return api.Piece{}, e
	}
	capped, e := instrument.Capo(in, fret)
	if e != api.OK {
		return api.Piece{}, e
	}
	if !instrument.Same(p.Instrument, capped) {
		return api.Piece{}, api.ErrInstrument
	}
	// Without the capo every fret is there: nothing is lost.
	q, _ := carry(p, in, alongNeck(in, fret))
	return q, api.OK
}

// Slide moves all fretted courses' notes along the neck.
func Slide(p api.Piece, by int) (api.Piece, api.Errno) {
	if e := piece.Check(p); e != api.OK {
		return api.Piece{}, e
	}
	if by < -api.MaxFrets || by > api.MaxFrets {
		return api.Piece{}, api.ErrArg
	}
	q, lost := carry(p, p.Instrument, alongNeck(p.Instrument, by))
	if slices.ContainsFunc(lost, func(l api.Lack) bool { return l.What == api.LackNote }) {
		return api.Piece{}, api.ErrFret
	}
	return q, api.OK
}
