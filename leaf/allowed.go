package leaf

import (
	"theorbo/api"
	"theorbo/hand"
	"theorbo/instrument"
	"theorbo/piece"
	"theorbo/sound"
)

// Allowed returns OK if a piece is a completion that the rules allow.
func Allowed(f api.Leaf, r api.Rules, p api.Piece) api.Errno {
	if e := check(f, r); e != api.OK {
		return e
	}
	reads, e := Reads(f, p)
	if e != api.OK {
		return e
	}
	if !reads {
		return api.ErrReading
	}
	// None of these has an error: the piece is valid.
	own, _ := Of(p)
	whole, _ := Piece(own)
	if !full(r, whole) {
		return api.ErrLength
	}
	for _, ev := range whole.Events {
		if !concordant(r, whole.Instrument, ev.Stops) {
			return api.ErrDiscord
		}
	}
	chords, _ := hand.Chords(whole)
	_, e = hand.Best(r.Hand, chords)
	return e
}

// full reports whether the rule of the measures allows a valid piece.
func full(r api.Rules, p api.Piece) bool {
	if r.Measure == 0 {
		return true
	}
	measures, _ := piece.Measures(p)
	for i, m := range measures {
		outer := i == 0 || i == len(measures)-1
		if m.Ticks > r.Measure || m.Ticks < r.Measure && !outer {
			return false
		}
	}
	return true
}

// concordant reports whether the rule of the concords allows the stops of an event.
func concordant(r api.Rules, in api.Instrument, stops []api.Stop) bool {
	if !r.Concord {
		return true
	}
	var pitches []int
	for _, st := range stops {
		pitch, _ := instrument.At(in, api.Place{Course: st.Course, Fret: st.Fret})
		pitches = append(pitches, pitch)
	}
	return sound.Concordant(pitches)
}
