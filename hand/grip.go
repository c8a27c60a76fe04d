package hand

import (
	"cmp"
	"slices"

	"theorbo/api"
	"theorbo/ints"
)

// fits reports whether a grip fits a valid chord.
func fits(h api.Hand, c api.Chord, g api.Grip) bool {
	if !ints.Within(g.Pos, 1, h.Top) || len(g.Fingers) != len(c.Down) {
		return false
	}
	for j, finger := range g.Fingers {
		if !ints.Within(finger, 1, len(h.Low)) || !reaches(h, g.Pos, finger, c.Down[j].Fret) {
			return false
		}
		for i, other := range g.Fingers[:j] {
			if !together(h, c, i, other, j, finger) {
				return false
			}
		}
	}
	return true
}

// reaches reports whether a finger stops a fret at a position.
func reaches(h api.Hand, pos, finger, fret int) bool {
	return ints.Within(fret, pos+h.Low[finger-1], pos+h.High[finger-1])
}

// together reports whether in one grip the place i of a chord may have one finger and the place j, which is on a greater course, another one or the same.
func together(h api.Hand, c api.Chord, i, finger, j, other int) bool {
	a, b := c.Down[i], c.Down[j]
	switch {
	case a.Fret != b.Fret:
		return cmp.Compare(a.Fret, b.Fret) == cmp.Compare(finger, other)
	case finger != other:
		return finger > other
	}
	return h.Barre[finger-1] && coverable(c, i, j)
}

// coverable reports whether a finger that lies on the places i and j of a chord leaves free what sounds between them.
func coverable(c api.Chord, i, j int) bool {
	for _, pl := range c.Down[i+1 : j] {
		if pl.Fret < c.Down[i].Fret {
			return false
		}
	}
	for _, course := range c.Open {
		if ints.Within(course, c.Down[i].Course, c.Down[j].Course) {
			return false
		}
	}
	return true
}

// Grips returns the grips that fit a chord, in order.
func Grips(h api.Hand, c api.Chord) ([]api.Grip, api.Errno) {
	if e := Check(h); e != api.OK {
		return nil, e
	}
	if !validChord(c) {
		return nil, api.ErrArg
	}
	return fitting(h, c)
}

// fitting returns the grips that fit a valid chord, in order, or ErrMany.
func fitting(h api.Hand, c api.Chord) ([]api.Grip, api.Errno) {
	var grips []api.Grip
	var fingers []int // of the first places
	// give gives fingers at a position to all places that have none yet, in all ways.
	var give func(pos int)
	give = func(pos int) {
		next := len(fingers)
		if next == len(c.Down) {
			grips = append(grips, api.Grip{Pos: pos, Fingers: slices.Clone(fingers)})
			return
		}
	candidates:
		for finger := 1; finger <= len(h.Low) && len(grips) <= api.MaxGrips; finger++ {
			if !reaches(h, pos, finger, c.Down[next].Fret) {
				continue
			}
			for i, other := range fingers {
				if !together(h, c, i, other, next, finger) {
					continue candidates
				}
			}
			fingers = append(fingers, finger)
			give(pos)
			fingers = fingers[:next]
		}
	}
	for pos := 1; pos <= h.Top; pos++ {
		give(pos)
	}
	if len(grips) > api.MaxGrips {
		return nil, api.ErrMany
	}
	return grips, api.OK
}

// Own returns the own cost of a grip.
func Own(h api.Hand, c api.Chord, g api.Grip) (int, api.Errno) {
	if e := Check(h); e != api.OK {
		return 0, e
	}
	if !validChord(c) {
		return 0, api.ErrArg
	}
	if !fits(h, c, g) {
		return 0, api.ErrGrip
	}
	return gripOf(h, c, g).own, api.OK
}

// Step returns the cost of the step from one grip to the next.
func Step(h api.Hand, a api.Chord, g api.Grip, b api.Chord, k api.Grip) (int, api.Errno) {
	if e := check(h, []api.Chord{a, b}); e != api.OK {
		return 0, e
	}
	if !fits(h, a, g) || !fits(h, b, k) {
		return 0, api.ErrGrip
	}
	from, to := gripOf(h, a, g), gripOf(h, b, k)
	cost, possible := step(&h, &from, &to, coursesOf(b.Held))
	if !possible {
		return 0, api.ErrGrip
	}
	return cost, api.OK
}

// Valid returns the cost of a fingering, or the first chord at which it is not valid.
func Valid(h api.Hand, l []api.Chord, grips []api.Grip) (cost, at int, e api.Errno) {
	costs, at, e := weigh(h, l, grips)
	for _, c := range costs {
		cost += c
	}
	return cost, at, e
}

// Hardest returns the chord with the greatest cost.
func Hardest(h api.Hand, l []api.Chord, grips []api.Grip) (int, api.Errno) {
	costs, _, e := weigh(h, l, grips)
	if e != api.OK {
		return 0, e
	}
	if len(costs) == 0 {
		return 0, api.ErrNone
	}
	return slices.Index(costs, slices.Max(costs)), api.OK
}

// weigh returns for each chord of a fingering the own cost of its grip and the cost of the step to it, or the first chord at which the fingering is not valid.
func weigh(h api.Hand, l []api.Chord, grips []api.Grip) (costs []int, at int, e api.Errno) {
	if e := check(h, l); e != api.OK {
		return nil, 0, e
	}
	if len(grips) != len(l) {
		return nil, 0, api.ErrArg
	}
	var before grip
	for i, c := range l {
		if !fits(h, c, grips[i]) {
			return nil, i, api.ErrGrip
		}
		now := gripOf(h, c, grips[i])
		cost := now.own
		if i > 0 {
			change, possible := step(&h, &before, &now, coursesOf(c.Held))
			if !possible {
				return nil, i, api.ErrGrip
			}
			cost += change
		}
		costs = append(costs, cost)
		before = now
	}
	return costs, 0, api.OK
}
