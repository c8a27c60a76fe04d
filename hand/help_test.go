package hand_test

import (
	"fmt"
	"math"
	"math/rand/v2"
	"slices"
	"strconv"
	"strings"
	"testing"

	"theorbo/api"
	"theorbo/hand"
)

// hostile are arguments that no range allows, and the ends of common ranges.
var hostile = []int{math.MinInt, math.MinInt + 1, -1 << 62, -2, -1, 0, 1, 2, 3, 4, 5, 8, 9, 12, 14, 15, 18, 19, 64, 65, 1000, 1001, 1 << 62, math.MaxInt - 1, math.MaxInt}

func number(t string) int {
	n, err := strconv.Atoi(t)
	if err != nil {
		panic(err)
	}
	return n
}

// numbers reads numbers that are separated by spaces.
func numbers(t string) []int {
	var l []int
	for _, w := range strings.Fields(t) {
		l = append(l, number(w))
	}
	return l
}

// chord makes a chord of words: `2.5` for a place, `h2` for a held course, `o6` for an open one.
func chord(t string) api.Chord {
	var c api.Chord
	for _, w := range strings.Fields(t) {
		switch w[0] {
		case 'h':
			c.Held = append(c.Held, number(w[1:]))
		case 'o':
			c.Open = append(c.Open, number(w[1:]))
		default:
			course, fret, _ := strings.Cut(w, ".")
			c.Down = append(c.Down, api.Place{Course: number(course), Fret: number(fret)})
		}
	}
	return c
}

// chords makes a sequence of chords that are separated by semicolons; the empty text has none.
func chords(t string) []api.Chord {
	var l []api.Chord
	if t == "" {
		return nil
	}
	for part := range strings.SplitSeq(t, ";") {
		l = append(l, chord(part))
	}
	return l
}

// grip makes a grip of the document's notation: `2: 1 1`.
func grip(t string) api.Grip {
	pos, fingers, _ := strings.Cut(t, ":")
	return api.Grip{Pos: number(strings.TrimSpace(pos)), Fingers: numbers(fingers)}
}

// grips makes a list of grips that are separated by commas.
func grips(t string) []api.Grip {
	var l []api.Grip
	if t == "" {
		return nil
	}
	for part := range strings.SplitSeq(t, ",") {
		l = append(l, grip(part))
	}
	return l
}

func shownGrip(g api.Grip) string {
	t := fmt.Sprint(g.Pos, ":")
	for _, f := range g.Fingers {
		t += fmt.Sprint(" ", f)
	}
	return t
}

// shownGrips is the inverse of grips.
func shownGrips(l []api.Grip) string {
	var parts []string
	for _, g := range l {
		parts = append(parts, shownGrip(g))
	}
	return strings.Join(parts, ", ")
}

// shownFingerings writes fingerings as the document does: `(1: 1, 1: 3) 0; ..`.
func shownFingerings(l []api.Fingering) string {
	var parts []string
	for _, f := range l {
		parts = append(parts, fmt.Sprintf("(%s) %d", shownGrips(f.Grips), f.Cost))
	}
	return strings.Join(parts, "; ")
}

func sameGrip(a, b api.Grip) bool {
	return a.Pos == b.Pos && slices.Equal(a.Fingers, b.Fingers)
}

func sameGrips(a, b []api.Grip) bool {
	return slices.EqualFunc(a, b, sameGrip)
}

func sameFingering(a, b api.Fingering) bool {
	return a.Cost == b.Cost && sameGrips(a.Grips, b.Grips)
}

// What follows is the document, condition by condition, without a thought of how long it takes.

func fits(h api.Hand, c api.Chord, g api.Grip) bool {
	n := len(h.Low)
	if g.Pos < 1 || g.Pos > h.Top || len(g.Fingers) != len(c.Down) {
		return false
	}
	for i, f := range g.Fingers {
		if f < 1 || f > n {
			return false
		}
		if c.Down[i].Fret < g.Pos+h.Low[f-1] || c.Down[i].Fret > g.Pos+h.High[f-1] {
			return false
		}
	}
	for i, a := range c.Down {
		for j, b := range c.Down {
			if a.Fret < b.Fret && g.Fingers[i] >= g.Fingers[j] {
				return false
			}
			if a.Fret == b.Fret && g.Fingers[i] != g.Fingers[j] && a.Course > b.Course && g.Fingers[i] > g.Fingers[j] {
				return false
			}
		}
	}
	for f := 1; f <= n; f++ {
		if !mayLie(h, c, f, placesOf(c, g, f)) {
			return false
		}
	}
	return true
}

// placesOf returns the places of a finger.
func placesOf(c api.Chord, g api.Grip, finger int) []api.Place {
	var l []api.Place
	for i, f := range g.Fingers {
		if f == finger {
			l = append(l, c.Down[i])
		}
	}
	return l
}

// mayLie is the condition 5.
func mayLie(h api.Hand, c api.Chord, finger int, l []api.Place) bool {
	if len(l) < 2 {
		return true
	}
	if !h.Barre[finger-1] {
		return false
	}
	least, greatest := l[0].Course, l[len(l)-1].Course
	for _, pl := range l {
		if pl.Fret != l[0].Fret {
			return false
		}
	}
	for _, course := range c.Open {
		if least < course && course < greatest {
			return false
		}
	}
	for _, pl := range c.Down {
		if least < pl.Course && pl.Course < greatest && pl.Fret < l[0].Fret {
			return false
		}
	}
	return true
}

// allGrips tries all fingers on all places at all positions.
func allGrips(h api.Hand, c api.Chord) []api.Grip {
	var l []api.Grip
	for pos := 1; pos <= h.Top; pos++ {
		tries := 1
		for range c.Down {
			tries *= len(h.Low)
		}
		for try := range tries {
			g := api.Grip{Pos: pos, Fingers: make([]int, len(c.Down))}
			for i := len(c.Down) - 1; i >= 0; i-- {
				g.Fingers[i] = 1 + try%len(h.Low)
				try /= len(h.Low)
			}
			if fits(h, c, g) {
				l = append(l, g)
			}
		}
	}
	return l
}

func distance(a, b int) int {
	if a < b {
		return b - a
	}
	return a - b
}

func ownCost(h api.Hand, c api.Chord, g api.Grip) int {
	cost := 0
	for f := 1; f <= len(h.Low); f++ {
		l := placesOf(c, g, f)
		if len(l) > 1 {
			cost += h.Bar
		}
		if len(l) > 0 {
			cost += h.Stretch * distance(l[0].Fret, g.Pos+f-1)
		}
	}
	return cost
}

// fingerOn returns the finger on a course, 0 for none.
func fingerOn(c api.Chord, g api.Grip, course int) int {
	for i, pl := range c.Down {
		if pl.Course == course {
			return g.Fingers[i]
		}
	}
	return 0
}

// stepCost tells of two grips that fit what their step costs, if there is one.
func stepCost(h api.Hand, a api.Chord, g api.Grip, b api.Chord, k api.Grip) (int, bool) {
	for _, course := range b.Held {
		if fingerOn(a, g, course) != fingerOn(b, k, course) {
			return 0, false
		}
	}
	down := len(a.Down) > 0 && len(b.Down) > 0
	if down && distance(g.Pos, k.Pos) > h.Jump {
		return 0, false
	}
	cost := h.Shift * distance(g.Pos, k.Pos)
	if down && g.Pos != k.Pos {
		cost += h.Lift
	}
	for f := 1; f <= len(h.Low); f++ {
		before, after := placesOf(a, g, f), placesOf(b, k, f)
		common := slices.ContainsFunc(before, func(pl api.Place) bool { return slices.Contains(after, pl) })
		if len(before) > 0 && len(after) > 0 && !common {
			cost += h.Slide
		}
	}
	return cost, true
}

// costOf returns the cost of a fingering, or the first chord at which it is not valid.
func costOf(h api.Hand, l []api.Chord, grips []api.Grip) (cost, at int, valid bool) {
	for i, g := range grips {
		if !fits(h, l[i], g) {
			return 0, i, false
		}
		if i > 0 {
			step, possible := stepCost(h, l[i-1], grips[i-1], l[i], g)
			if !possible {
				return 0, i, false
			}
			cost += step
		}
		cost += ownCost(h, l[i], g)
	}
	return cost, 0, true
}

// allFingerings tries all sequences of grips and returns the valid ones in order.
func allFingerings(h api.Hand, l []api.Chord) []api.Fingering {
	all := []api.Fingering{{}}
	for i, c := range l {
		var longer []api.Fingering
		options := allGrips(h, c)
		for _, f := range all {
			for _, g := range options {
				cost := f.Cost + ownCost(h, c, g)
				if i > 0 {
					step, possible := stepCost(h, l[i-1], f.Grips[i-1], c, g)
					if !possible {
						continue
					}
					cost += step
				}
				longer = append(longer, api.Fingering{Grips: append(slices.Clone(f.Grips), g), Cost: cost})
			}
		}
		all = longer
	}
	// They stand in the order of their grips by now.
	slices.SortStableFunc(all, func(a, b api.Fingering) int { return a.Cost - b.Cost })
	return all
}

// task is a hand and chords that it may or may not be able to play.
type task struct {
	h api.Hand
	l []api.Chord
}

func (k task) String() string {
	return fmt.Sprintf("%v playing %v", k.h, k.l)
}

// anyHand returns a valid hand.
func anyHand(r *rand.Rand) api.Hand {
	if r.IntN(4) == 0 {
		return hand.Standard()
	}
	h := api.Hand{Top: 2 + r.IntN(6), Jump: r.IntN(3)}
	if r.IntN(6) == 0 {
		h.Top, h.Jump = 1+r.IntN(18), r.IntN(19)
	}
	for _, weight := range []*int{&h.Shift, &h.Lift, &h.Bar, &h.Stretch, &h.Slide} {
		*weight = r.IntN(4)
		if r.IntN(10) == 0 {
			*weight = r.IntN(api.MaxWeight + 1)
		}
	}
	low, high := 0, r.IntN(3)
	for range 1 + r.IntN(2) + r.IntN(3) {
		h.Low, h.High, h.Barre = append(h.Low, low), append(h.High, high), append(h.Barre, r.IntN(2) == 0)
		low, high = min(low+r.IntN(2), api.MaxSpread), min(high+r.IntN(3), api.MaxSpread)
		high = max(low, high)
	}
	if hand.Check(h) != api.OK {
		panic("no valid hand")
	}
	return h
}

// anyChord returns a valid chord that may follow another one; the more of move there is the fewer fingers stay.
func anyChord(r *rand.Rand, before api.Chord, move int) api.Chord {
	var c api.Chord
	base, apart := 1+r.IntN(5), 3+r.IntN(6)
	for course := range api.MaxCourses {
		course++
		held := slices.IndexFunc(before.Down, func(pl api.Place) bool { return pl.Course == course })
		switch kind := r.IntN(2 * apart); {
		case len(c.Down) < 4 && held >= 0 && r.IntN(10) >= move:
			c.Down = append(c.Down, before.Down[held])
			if r.IntN(10) >= move {
				c.Held = append(c.Held, course)
			}
		case len(c.Down) < 4 && kind == 0:
			c.Down = append(c.Down, api.Place{Course: course, Fret: base + r.IntN(3)})
		case kind == 1 && r.IntN(2) == 0:
			c.Open = append(c.Open, course)
		}
	}
	return c
}

// tasks are small enough to try everything.
func tasks() []task {
	r := rand.New(rand.NewPCG(1, 2))
	l := []task{{hand.Standard(), nil}, {hand.Standard(), chords("1.1; 1.3; 1.3 2.1 h1")}}
	for len(l) < 1500 {
		k := task{h: anyHand(r)}
		var before api.Chord
		product, move := 1, 1+r.IntN(7)
		for range r.IntN(7) {
			c := anyChord(r, before, move)
			options := len(allGrips(k.h, c))
			if options == 0 && r.IntN(12) > 0 {
				continue
			}
			k.l, before = append(k.l, c), c
			product *= max(1, options)
		}
		if product < 30000 {
			l = append(l, k)
		}
	}
	return l
}

// full is a hand whose fingers all lie over several courses and all reach far.
func full() api.Hand {
	return api.Hand{
		Low: []int{0, 0, 0, 0}, High: []int{8, 8, 8, 8}, Barre: []bool{true, true, true, true},
		Top: 18, Jump: 18, Shift: 1, Lift: 1, Bar: 1, Stretch: 1, Slide: 1,
	}
}

// many returns a hand and a chord that 200 grips fit, and another hand and the same chord that 201 fit.
func many() (just, over api.Hand, c api.Chord) {
	just, over = full(), full()
	// Of k fingers four places on one fret get 1, 5, 15 or 35 choices of fingers.
	just.Low, just.High = numbers("0 0 0 4"), numbers("7 7 7 7")
	over.Low = numbers("0 1 1 5")
	return just, over, chord("1.9 3.9 4.9 14.9")
}

// wants compares what a call has returned without an error with the right result.
func wants[T comparable](t *testing.T, call string, got T, e api.Errno, want T) {
	t.Helper()
	if e != api.OK || got != want {
		t.Errorf("%s = %v, %d; it should be %v", call, got, e, want)
	}
}
