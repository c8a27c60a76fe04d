package leaf_test

import (
	"fmt"

	"theorbo/api"
	"theorbo/hand"
	"theorbo/instrument"
	"theorbo/piece"
	"theorbo/sound"
)

// What follows is the document, sentence by sentence, by way of whole pieces.

// choicesOf returns the number of readings of a column.
func choicesOf(c api.Column) float64 {
	count := float64(len(c.Signs))
	for _, cell := range c.Cells {
		count *= float64(len(cell))
	}
	return count
}

// eventsOf returns the events that a column can be, in order.
func eventsOf(c api.Column) []api.Event {
	stops := [][]api.Stop{nil}
	for i, cell := range c.Cells {
		var longer [][]api.Stop
		for _, l := range stops {
			for _, n := range cell {
				more := append([]api.Stop{}, l...)
				if n >= 0 {
					more = append(more, api.Stop{Course: i + 1, Fret: n})
				}
				longer = append(longer, more)
			}
		}
		stops = longer
	}
	var events []api.Event
	for _, s := range c.Signs {
		for _, l := range stops {
			events = append(events, api.Event{Bar: c.Bar, Sign: s, Tie: c.Tie, Stops: l})
		}
	}
	return events
}

// longer returns a piece with one more event.
func longer(p api.Piece, ev api.Event) api.Piece {
	p.Events = append(p.Events[:len(p.Events):len(p.Events)], ev)
	return p
}

// completionsOf returns all completions of a leaf, in order.
func completionsOf(f api.Leaf) []api.Piece {
	all := []api.Piece{{Instrument: f.Instrument}}
	for _, c := range f.Columns {
		var next []api.Piece
		for _, p := range all {
			for _, ev := range eventsOf(c) {
				next = append(next, longer(p, ev))
			}
		}
		all = next
	}
	return all
}

// filled is the rule 1.
func filled(r api.Rules, p api.Piece) bool {
	measures, e := piece.Measures(p)
	if e != api.OK {
		panic(e)
	}
	for i, m := range measures {
		if r.Measure == 0 {
			continue
		}
		if i == 0 || i == len(measures)-1 {
			if m.Ticks > r.Measure {
				return false
			}
		} else if m.Ticks != r.Measure {
			return false
		}
	}
	return true
}

// inConcord is the rule 2.
func inConcord(r api.Rules, p api.Piece) bool {
	for _, ev := range p.Events {
		var pitches []int
		for _, st := range ev.Stops {
			pitch, e := instrument.At(p.Instrument, api.Place{Course: st.Course, Fret: st.Fret})
			if e != api.OK {
				panic(e)
			}
			pitches = append(pitches, pitch)
		}
		if r.Concord && !sound.Concordant(pitches) {
			return false
		}
	}
	return true
}

func chordsOf(p api.Piece) []api.Chord {
	chords, e := hand.Chords(p)
	if e != api.OK {
		panic(e)
	}
	return chords
}

// playable is the rule 3.
func playable(r api.Rules, p api.Piece) bool {
	count, e := hand.Count(r.Hand, chordsOf(p))
	if e != api.OK {
		panic(e)
	}
	return count > 0
}

func isAllowed(r api.Rules, p api.Piece) bool {
	return filled(r, p) && inConcord(r, p) && playable(r, p)
}

// situationOf is the situation behind the last event of a piece.
func situationOf(r api.Rules, p api.Piece) string {
	ticks := 0
	if measures, _ := piece.Measures(p); r.Measure != 0 {
		ticks = measures[len(measures)-1].Ticks
	}
	chords := chordsOf(p)
	last := len(chords) - 1
	grips, e := hand.Grips(r.Hand, chords[last])
	if e != api.OK {
		panic(e)
	}
	var possible []api.Grip
	for _, g := range grips {
		if _, e := hand.Through(r.Hand, chords, last, g); e == api.OK {
			possible = append(possible, g)
		}
	}
	return fmt.Sprint(ticks, chords[last].Down, chords[last].Open, possible)
}

// outcome is what a search comes to: how many completions are allowed, or the error and the column where it is found.
type outcome struct {
	count, at int
	e         api.Errno
	most      int // the greatest number of situations
}

// branch is a situation: one of the pieces that lead to it, and how many there are.
type branch struct {
	p     api.Piece
	count int
}

// searched looks for the allowed completions of a leaf, column by column.
func searched(f api.Leaf, r api.Rules) outcome {
	var o outcome
	now := []*branch{{api.Piece{Instrument: f.Instrument}, 1}}
	for column, c := range f.Columns {
		next, e := extended(now, c, r)
		o.at, o.e = column, e
		if e != api.OK {
			return o
		}
		if len(next) == 0 {
			o.e = api.ErrNoReading
			return o
		}
		if column < len(f.Columns)-1 {
			o.most = max(o.most, len(next))
			if len(next) > 1000 {
				o.e = api.ErrMany
				return o
			}
		}
		now = next
	}
	for _, b := range now {
		o.count += b.count
	}
	o.at = 0
	return o
}

// extended returns the situations behind a column.
func extended(now []*branch, c api.Column, r api.Rules) ([]*branch, api.Errno) {
	if choicesOf(c) > 1000 {
		return nil, api.ErrMany
	}
	var next []*branch
	found := map[string]*branch{}
	for _, b := range now {
		for _, ev := range eventsOf(c) {
			p := longer(b.p, ev)
			if !filled(r, p) || !inConcord(r, p) {
				continue
			}
			chords := chordsOf(p)
			if _, e := hand.Grips(r.Hand, chords[len(chords)-1]); e != api.OK {
				return nil, e
			}
			if !playable(r, p) {
				continue
			}
			key := situationOf(r, p)
			if found[key] == nil {
				found[key] = &branch{p: p}
				next = append(next, found[key])
			}
			found[key].count += b.count
		}
	}
	return next, api.OK
}

// allowedOf returns all allowed completions of a leaf, in order.
func allowedOf(f api.Leaf, r api.Rules) []api.Piece {
	var l []api.Piece
	for _, p := range completionsOf(f) {
		if isAllowed(r, p) {
			l = append(l, p)
		}
	}
	return l
}

// narrowedOf returns the leaf that has the signs and numbers of some completions of another one.
func narrowedOf(f api.Leaf, l []api.Piece) api.Leaf {
	n := api.Leaf{Instrument: f.Instrument}
	for i, c := range f.Columns {
		column := api.Column{Bar: c.Bar, Tie: c.Tie, Cells: make([][]int, len(c.Cells))}
		for _, s := range c.Signs {
			for _, p := range l {
				if p.Events[i].Sign == s {
					column.Signs = append(column.Signs, s)
					break
				}
			}
		}
		for course, cell := range c.Cells {
			for _, n := range cell {
				for _, p := range l {
					if fretOf(p.Events[i], course+1) == n {
						column.Cells[course] = append(column.Cells[course], n)
						break
					}
				}
			}
		}
		n.Columns = append(n.Columns, column)
	}
	return n
}

// fretOf returns the fret of an event on a course, or -1.
func fretOf(ev api.Event, course int) int {
	for _, st := range ev.Stops {
		if st.Course == course {
			return st.Fret
		}
	}
	return -1
}

// differencesOf counts the differences between two pieces.
func differencesOf(p, q api.Piece) int {
	a, _ := piece.Plain(p)
	b, _ := piece.Plain(q)
	count := 0
	for i, ev := range a.Events {
		if ev.Sign != b.Events[i].Sign {
			count++
		}
		for course := range p.Instrument.Courses {
			if fretOf(ev, course+1) != fretOf(b.Events[i], course+1) {
				count++
			}
		}
	}
	return count
}
