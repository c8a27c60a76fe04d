package intabulate

import (
	"iter"
	"slices"

	"theorbo/api"
	"theorbo/ints"
)

// placing looks for the places of new notes, once it is clear which of them are dropped and which unfinished notes are cut.
type placing struct {
	*chooser
	cut             []bool
	options         [][]api.Place // of each new note; a dropped one has only the zero place
	kept            frets
	least, greatest []int // the sums of the frets of the new notes from each of them on
	known           map[goal]bool
}

// placings goes through the places at which the new notes may be played, in order. It leaves out some that the hand cannot stop. It does not look whether there is a new note on the course of each open note that is cut: where there is none the string rings on, and the choice that does not cut it has come before.
func (ch *chooser) placings(drop, cut []bool) iter.Seq[[]api.Place] {
	return func(yield func([]api.Place) bool) {
		p, ok := ch.placing(drop, cut)
		if !ok {
			return
		}
		for sum := p.least[0]; sum <= p.greatest[0]; sum++ {
			if !p.withSum(sum, yield) {
				return
			}
		}
	}
}

// placing returns how to look for places, unless there are none.
func (ch *chooser) placing(drop, cut []bool) (p placing, ok bool) {
	if countOf(drop) == len(drop) {
		return placing{}, false
	}
	p = placing{chooser: ch, cut: cut, known: map[goal]bool{}}
	var blocked []int
	for i, n := range ch.unfinished {
		if cut[i] {
			continue
		}
		if !n.isOpen() && ch.event-n.event > api.MaxHold {
			return placing{}, false
		}
		blocked = append(blocked, n.place.Course)
		p.kept = p.kept.with(n.place.Fret)
	}
	for i, places := range ch.places {
		options := []api.Place{{}}
		if !drop[i] {
			options = free(places, blocked)
		}
		if len(options) == 0 {
			return placing{}, false
		}
		p.options = append(p.options, options)
	}
	p.bound()
	return p, true
}

// free returns the places that are not on some courses.
func free(places []api.Place, blocked []int) []api.Place {
	return slices.DeleteFunc(slices.Clone(places), func(pl api.Place) bool { return slices.Contains(blocked, pl.Course) })
}

// bound finds the least and the greatest sums of frets.
func (p *placing) bound() {
	count := len(p.options)
	p.least, p.greatest = make([]int, count+1), make([]int, count+1)
	for i := count - 1; i >= 0; i-- {
		low, high := api.MaxFrets, 0
		for _, pl := range p.options[i] {
			low, high = min(low, pl.Fret), max(high, pl.Fret)
		}
		p.least[i], p.greatest[i] = p.least[i+1]+low, p.greatest[i+1]+high
	}
}

// withSum goes through the places whose frets have a sum, in order, and reports whether more are asked for.
func (p *placing) withSum(sum int, yield func([]api.Place) bool) bool {
	var places []api.Place
	// place adds the places of the other notes, whose frets have the sum rest, in all ways; stopped has all frets so far.
	var place func(stopped frets, rest int) bool
	place = func(stopped frets, rest int) bool {
		next := len(places)
		if !p.able(goal{next, rest, stopped}) {
			return true
		}
		if next == len(p.options) {
			return yield(places)
		}
		if !p.may(p.chord(places, p.cut)) {
			return true
		}
		for _, pl := range p.options[next] {
			if !isNowhere(pl) && isTaken(pl.Course, places) {
				continue
			}
			places = append(places, pl)
			more := place(stopped.with(pl.Fret), rest-pl.Fret)
			places = places[:next]
			if !more {
				return false
			}
		}
		return true
	}
	return place(p.kept, sum)
}

// goal is what is left to do while places are looked for: the notes from one on must have frets of a sum, and some frets are stopped already.
type goal struct {
	next, sum int
	stopped   frets
}

// able reports whether there are such frets that the hand can stop all at once, on whatever courses they are.
func (p *placing) able(g goal) bool {
	if !ints.Within(g.sum, p.least[g.next], p.greatest[g.next]) {
		return false
	}
	able, known := p.known[g]
	if !known {
		able = p.may(g.stopped.chord()) && p.goesOn(g)
		p.known[g] = able
	}
	return able
}

// goesOn reports whether one of the frets of the next note leads on to a goal.
func (p *placing) goesOn(g goal) bool {
	if g.next == len(p.options) {
		return true
	}
	return slices.ContainsFunc(p.options[g.next], func(pl api.Place) bool {
		return p.able(goal{g.next + 1, g.sum - pl.Fret, g.stopped.with(pl.Fret)})
	})
}

// frets are those that the hand stops at once, in ascending order behind zeros. There is room for all: at no time more notes sound or begin than there are parts.
type frets [api.MaxParts]int8

// with returns the frets with one more. An open string does not add any.
func (f frets) with(fret int) frets {
	f[0] = int8(fret)
	slices.Sort(f[:])
	return f
}

// chord returns the chord of these frets that is the easiest one: those that one finger can stop are on courses next to each other.
func (f frets) chord() api.Chord {
	var c api.Chord
	for i, fret := range f {
		if fret > 0 {
			c.Down = append(c.Down, api.Place{Course: i + 1, Fret: int(fret)})
		}
	}
	return c
}
