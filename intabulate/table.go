package intabulate

import (
	"cmp"
	"slices"

	"theorbo/api"
	"theorbo/hand"
)

// member is a tone of a part; both are told by their numbers.
type member struct {
	part, tone int
}

// note is what becomes of the tones that begin together with one pitch.
type note struct {
	members []member
	pitch   int // as the parts have it
	to      int
	place   api.Place
	event   int // the number of the event at which it begins
	hold    int
	cut     int // the time at which it is cut; 0 if it is not
}

func (n *note) isPlayed() bool {
	return !isNowhere(n.place)
}

// isNowhere reports whether a place is that of a note that is not played.
func isNowhere(pl api.Place) bool {
	return pl == api.Place{}
}

func (n *note) isOpen() bool {
	return n.place.Fret == 0
}

// table is what is on the table while events are made: what the hand does in the event before, the grips with which it may do that, and the unfinished notes.
type table struct {
	api.Chord
	hand       api.Hand
	possible   []api.Grip // empty only before the first event
	unfinished []*note
}

// chord returns what the hand does if the first new notes are played at these places, and some unfinished notes are cut. It leaves out the courses that ring open from before.
func (t *table) chord(places []api.Place, cut []bool) api.Chord {
	var c api.Chord
	for i, n := range t.unfinished {
		if !cut[i] && !n.isOpen() {
			c.Down = append(c.Down, n.place)
			c.Held = append(c.Held, n.place.Course)
		}
	}
	for _, pl := range places {
		switch {
		case isNowhere(pl):
		case pl.Fret > 0:
			c.Down = append(c.Down, pl)
		default:
			c.Open = append(c.Open, pl.Course)
		}
	}
	slices.SortFunc(c.Down, func(a, b api.Place) int { return cmp.Compare(a.Course, b.Course) })
	slices.Sort(c.Held)
	slices.Sort(c.Open)
	return c
}

// ringing returns the courses that ring open from before if new notes are played at these places.
func (t *table) ringing(places []api.Place) []int {
	return slices.DeleteFunc(slices.Clone(t.Open), func(course int) bool { return isTaken(course, places) })
}

func isTaken(course int, places []api.Place) bool {
	return slices.ContainsFunc(places, func(pl api.Place) bool { return pl.Course == course })
}

// wait returns what the hand does in a tie: nothing changes.
func (t *table) wait() api.Chord {
	c := api.Chord{Down: t.Down, Open: t.Open}
	for _, pl := range t.Down {
		c.Held = append(c.Held, pl.Course)
	}
	return c
}

// reached returns the grips of a chord to which there is a step from a possible one, if the chord is that of the next event.
func (t *table) reached(c api.Chord) ([]api.Grip, api.Errno) {
	grips, e := hand.Grips(t.hand, c)
	if e != api.OK || len(t.possible) == 0 {
		return grips, e
	}
	return slices.DeleteFunc(grips, func(next api.Grip) bool { return !t.leads(c, next) }), api.OK
}

// leads reports whether there is a step from a possible grip to a grip of the next chord.
func (t *table) leads(c api.Chord, next api.Grip) bool {
	return slices.ContainsFunc(t.possible, func(g api.Grip) bool {
		_, e := hand.Step(t.hand, t.Chord, g, c, next)
		return e == api.OK
	})
}

// pass goes on to the next event, in which the hand does something with one of some grips.
func (t *table) pass(c api.Chord, grips []api.Grip) {
	t.Chord, t.possible = c, grips
}
