package intabulate

import (
	"iter"
	"slices"

	"theorbo/api"
)

// choice says of each new note where it is played, and of each unfinished one whether it is cut. With it go the chord that it makes, and those grips of this that are reached.
type choice struct {
	places []api.Place
	cut    []bool
	chord  api.Chord
	grips  []api.Grip
}

// chooser looks for the first choice that is allowed at a time.
type chooser struct {
	*table
	event  int           // the number of the event that is to be made
	places [][]api.Place // of each new note
	found  map[deeds]bool
}

// first returns the first choice that is allowed, if there is one.
func (ch *chooser) first() (c choice, allowed bool) {
search:
	for drop := range marks(len(ch.places)) {
		for cut := range marks(len(ch.unfinished)) {
			for places := range ch.placings(drop, cut) {
				chord := ch.chord(places, cut)
				chord.Open = append(chord.Open, ch.ringing(places)...)
				slices.Sort(chord.Open)
				grips, e := ch.reached(chord)
				if e == api.OK && len(grips) > 0 {
					c, allowed = choice{slices.Clone(places), cut, chord, grips}, true
					break search
				}
			}
		}
	}
	return c, allowed
}

// marks goes through the ways to mark some of n things: first those with fewer marks, and of two with as many the one that does not mark the first thing of which they differ.
func marks(n int) iter.Seq[[]bool] {
	return func(yield func([]bool) bool) {
		for count := range n + 1 {
			for number := range 1 << n {
				marked := make([]bool, n)
				for i := range marked {
					marked[i] = number>>(n-1-i)&1 == 1
				}
				if countOf(marked) == count && !yield(marked) {
					return
				}
			}
		}
	}
}

func countOf(marked []bool) int {
	count := 0
	for _, m := range marked {
		if m {
			count++
		}
	}
	return count
}

// deeds says what the hand does on each course: on a fret it is the fret, to which the number of all frets is added if the finger stays; 0 is nothing.
type deeds [api.MaxCourses + 1]int8

const openString = -1

func deedsOf(c api.Chord) deeds {
	var d deeds
	for _, pl := range c.Down {
		d[pl.Course] = int8(pl.Fret)
	}
	for _, course := range c.Held {
		d[course] += api.MaxFrets
	}
	for _, course := range c.Open {
		d[course] = openString
	}
	return d
}

// may reports whether the hand may be able to play a chord to which something is added. What it cannot do it cannot do with more fingers and open strings either; but of too many grips some may drop out.
func (ch *chooser) may(c api.Chord) bool {
	d := deedsOf(c)
	possible, known := ch.found[d]
	if !known {
		grips, e := ch.reached(c)
		possible = e == api.ErrMany || len(grips) > 0
		ch.found[d] = possible
	}
	return possible
}
