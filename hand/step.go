package hand

import (
	"math/bits"

	"theorbo/api"
	"theorbo/ints"
)

// courses is a set of courses: the bit n stands for the course n.
type courses uint16

func coursesOf(numbers []int) courses {
	var set courses
	for _, n := range numbers {
		set |= 1 << n
	}
	return set
}

func (set courses) count() int {
	return bits.OnesCount16(uint16(set))
}

// touch is what a finger does in a grip: the courses on which it lies, if any, and its fret there.
type touch struct {
	courses courses
	fret    int
}

// grip is a grip that fits a chord, with its own cost and what each finger does.
type grip struct {
	api.Grip
	own     int
	touches [api.MaxFingers]touch
}

// gripOf looks closer at a grip that fits a chord.
func gripOf(h api.Hand, c api.Chord, g api.Grip) grip {
	looked := grip{Grip: g}
	for i, finger := range g.Fingers {
		t := &looked.touches[finger-1]
		t.courses |= 1 << c.Down[i].Course
		t.fret = c.Down[i].Fret
	}
	for i, t := range looked.touches {
		if t.courses == 0 {
			continue
		}
		if t.courses.count() > 1 {
			looked.own += h.Bar
		}
		looked.own += h.Stretch * ints.Distance(t.fret, g.Pos+i)
	}
	return looked
}

// step returns the cost of the step from a grip to one of the next chord, and whether there is one. The fingers on the courses held stay.
func step(h *api.Hand, from, to *grip, held courses) (cost int, possible bool) {
	moved := ints.Distance(from.Pos, to.Pos)
	down := len(from.Fingers) > 0 && len(to.Fingers) > 0
	if down && moved > h.Jump {
		return 0, false
	}
	cost = h.Shift * moved
	if down && moved > 0 {
		cost += h.Lift
	}
	for i, a := range from.touches {
		b := to.touches[i]
		if a.courses&held != b.courses&held {
			return 0, false
		}
		if a.courses != 0 && b.courses != 0 && (a.fret != b.fret || a.courses&b.courses == 0) {
			cost += h.Slide
		}
	}
	return cost, true
}
