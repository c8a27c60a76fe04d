package leaf

import (
	"slices"

	"theorbo/api"
	"theorbo/hand"
	"theorbo/ints"
	"theorbo/lists"
)

// posture is what the left hand does in an event of a completion: the frets at which fingers are down, with 0 for an open string that sounds, and the numbers of the possible grips among those that fit.
type posture struct {
	frets notes
	grips []rune
}

// text writes a posture as a text; no other one is written like this.
func (p posture) text() string {
	text := make([]rune, 0, len(p.frets)+len(p.grips))
	for _, fret := range p.frets {
		text = append(text, rune(fret)-noNote)
	}
	return string(append(text, p.grips...))
}

// postureOf is the inverse of text.
func postureOf(text string) posture {
	var p posture
	numbers := []rune(text)
	for i := range p.frets {
		p.frets[i] = int8(numbers[i] + noNote)
	}
	p.grips = numbers[len(p.frets):]
	return p
}

// anyDown reports whether a finger is down.
func (n notes) anyDown() bool {
	return slices.ContainsFunc(n[:], func(fret int8) bool { return fret > 0 })
}

// chord returns the chord of the frets of a posture. It does not say which fingers have stayed.
func (n notes) chord() api.Chord {
	var c api.Chord
	for _, st := range n.stops() {
		if st.Fret > 0 {
			c.Down = append(c.Down, api.Place{Course: st.Course, Fret: st.Fret})
		} else {
			c.Open = append(c.Open, st.Course)
		}
	}
	return c
}

// outlook is what matters of a posture if no tie follows: the open strings that may ring on, and the positions that the hand can reach. (A completion has no holds, so all fingers leave their frets.)
type outlook struct {
	open notes
	near positions
}

// positions is a set of positions: the bit n stands for the position n.
type positions uint32

const everywhere = ^positions(0)

// player has the hand that is to play the completions. It says of an event after another one what hand.Chords and hand.Step say of whole pieces.
type player struct {
	hand  api.Hand
	known map[notes]gripping
}

// gripping is what hand.Grips returns.
type gripping struct {
	grips []api.Grip
	e     api.Errno
}

// fitting returns the grips that fit the frets of a posture.
func (p player) fitting(frets notes) ([]api.Grip, api.Errno) {
	g, known := p.known[frets]
	if !known {
		g.grips, g.e = hand.Grips(p.hand, frets.chord())
		p.known[frets] = g
	}
	return g.grips, g.e
}

// possible returns the possible grips of a posture.
func (p player) possible(now posture) []api.Grip {
	all, _ := p.fitting(now.frets)
	return lists.Changed(now.grips, func(number rune) api.Grip { return all[number] })
}

// outlook returns the outlook of a posture.
func (p player) outlook(now posture) outlook {
	o := outlook{open: silence(), near: everywhere}
	for i, fret := range now.frets {
		if fret == 0 {
			o.open[i] = 0
		}
	}
	if !now.frets.anyDown() {
		return o
	}
	o.near = 0
	for _, g := range p.possible(now) {
		for pos := range p.hand.Top + 1 {
			if p.inReach(g.Pos, pos) {
				o.near |= 1 << pos
			}
		}
	}
	return o
}

// inReach reports whether the hand can shift from one position to another with fingers down.
func (p player) inReach(from, to int) bool {
	return ints.Distance(from, to) <= p.hand.Jump
}

// play returns the posture in a chord or a rest. It may have no possible grips. The error is that of hand.Grips.
func (p player) play(o outlook, n notes) (posture, api.Errno) {
	next := posture{frets: n}
	// In a rest open strings are silent, too.
	if n != silence() {
		for i, fret := range n {
			next.frets[i] = max(fret, o.open[i])
		}
	}
	all, e := p.fitting(next.frets)
	if e != api.OK {
		return posture{}, e
	}
	near := o.near
	if !next.frets.anyDown() {
		near = everywhere
	}
	next.grips = make([]rune, 0, len(all))
	for number, g := range all {
		if near>>g.Pos&1 == 1 {
			next.grips = append(next.grips, rune(number))
		}
	}
	return next, api.OK
}

// stay returns the posture in a tie: what sounds goes on, and every finger stays on its fret.
func (p player) stay(now posture) posture {
	all, _ := p.fitting(now.frets)
	before := p.possible(now)
	next := posture{frets: now.frets}
	for number, g := range all {
		if slices.ContainsFunc(before, func(b api.Grip) bool { return p.inReach(b.Pos, g.Pos) && slices.Equal(b.Fingers, g.Fingers) }) {
			next.grips = append(next.grips, rune(number))
		}
	}
	return next
}
