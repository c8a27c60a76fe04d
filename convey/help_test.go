package convey_test

import (
	"fmt"
	"math"
	"math/rand/v2"
	"slices"
	"strconv"
	"strings"
	"testing"

	"theorbo/api"
	"theorbo/instrument"
	"theorbo/notation"
	"theorbo/piece"
)

// hostile are arguments that no range allows, and the ends of common ranges.
var hostile = []int{math.MinInt, math.MinInt + 1, -1 << 62, -128, -127, -19, -18, -2, -1, 0, 1, 2, 5, 7, 8, 14, 15, 18, 19, 127, 128, 399, 400, 1 << 62, math.MaxInt - 1, math.MaxInt}

var systems = []api.System{api.French, api.Italian, api.Spanish, api.German}

// noSystems are all systems that do not exist.
func noSystems() []api.System {
	l := []api.System{0}
	for sys := api.German + 1; sys != 0; sys++ {
		l = append(l, sys)
	}
	return l
}

func standard(name string) api.Instrument {
	in, e := instrument.Standard(name)
	if e != api.OK {
		panic(name)
	}
	return in
}

// built reads an instrument from its text.
func built(text string) api.Instrument {
	in, e := instrument.Parse(text)
	if e != api.OK {
		panic(text)
	}
	return in
}

// made makes a piece of events in this notation: French columns, separated by semicolons, but that a chord has the cells of its notes alone, as on a line, each behind the number of its course: `C 1c.,_1 7a; | Q3 ~; - %`.
func made(in api.Instrument, columns string) api.Piece {
	p := api.Piece{Instrument: in}
	if columns == "" {
		return p
	}
	for column := range strings.SplitSeq(columns, ";") {
		p.Events = append(p.Events, eventOf(strings.Fields(column)))
	}
	return p
}

func eventOf(words []string) api.Event {
	ev := api.Event{Bar: words[0] == "|"}
	if ev.Bar {
		words = words[1:]
	}
	sign, e := notation.ParseTime(api.French, words[0])
	if e != api.OK {
		panic(words[0])
	}
	ev.Sign = sign
	ev.Tie = words[1] == "~"
	if words[1] == "~" || words[1] == "%" {
		return ev
	}
	for _, w := range words[1:] {
		ev.Stops = append(ev.Stops, stopOf(w))
	}
	return ev
}

func stopOf(word string) api.Stop {
	cell := strings.TrimLeft(word, "0123456789")
	st, e := notation.ParseCell(api.French, 1, cell, api.MaxHold)
	course, err := strconv.Atoi(strings.TrimSuffix(word, cell))
	if e != api.OK || err != nil {
		panic(word)
	}
	st.Course = course
	return st
}

// columnsOf writes the events of a piece in the notation of made.
func columnsOf(p api.Piece) string {
	var columns []string
	for _, ev := range p.Events {
		column := ""
		if ev.Bar {
			column = "| "
		}
		word, _ := notation.Time(api.French, ev.Sign)
		column += word
		if ev.Tie {
			column += " ~"
		} else if len(ev.Stops) == 0 {
			column += " %"
		}
		for _, st := range ev.Stops {
			line := st
			line.Course = 1
			cell, _ := notation.Cell(api.French, line, api.MaxHold)
			column += fmt.Sprint(" ", st.Course, cell)
		}
		columns = append(columns, column)
	}
	return strings.Join(columns, "; ")
}

func shown(p api.Piece) string {
	return fmt.Sprintf("%s on %v", columnsOf(p), p.Instrument)
}

func copied(p api.Piece) api.Piece {
	q := api.Piece{Instrument: api.Instrument{Courses: slices.Clone(p.Instrument.Courses), Steps: slices.Clone(p.Instrument.Steps)}}
	for _, ev := range p.Events {
		ev.Stops = slices.Clone(ev.Stops)
		q.Events = append(q.Events, ev)
	}
	return q
}

func isZero(p api.Piece) bool {
	return len(p.Instrument.Courses) == 0 && len(p.Instrument.Steps) == 0 && len(p.Events) == 0
}

// words are what may be lost.
var words = map[int]string{1: "note", 2: "right", 3: "grace", 4: "hold", 5: "three", 6: "sign", 7: "tie", 8: "rest"}

// told writes losses in the notation of this package's tests: `0.1 note, 2.0 tie`, event and course.
func told(l []api.Lack) string {
	var t []string
	for _, lack := range l {
		t = append(t, fmt.Sprintf("%d.%d %s", lack.Event, lack.Course, words[lack.What]))
	}
	return strings.Join(t, ", ")
}

// result is what most functions of the package return.
type result struct {
	p    api.Piece
	lost []api.Lack
	e    api.Errno
}

func of(p api.Piece, lost []api.Lack, e api.Errno) result {
	return result{p, lost, e}
}

// lossless is the result of a function that declares no losses.
func lossless(p api.Piece, e api.Errno) result {
	return result{p, nil, e}
}

func failed(e api.Errno) result {
	return result{e: e}
}

func wants(t *testing.T, call string, got, want result) {
	t.Helper()
	if got.e != want.e || !piece.Same(got.p, want.p) || told(got.lost) != told(want.lost) || want.e != api.OK && (!isZero(got.p) || len(got.lost) > 0) {
		t.Fatalf("%s\n is %s\n with error %d and losses %s;\n it should be %s\n with error %d and losses %s", call, shown(got.p), got.e, told(got.lost), shown(want.p), want.e, told(want.lost))
	}
}

// brokenPiece is a piece that is not valid, with the error of piece.Check.
type brokenPiece struct {
	name string
	p    api.Piece
	e    api.Errno
}

func broken() []brokenPiece {
	var l []brokenPiece
	add := func(name string, e api.Errno, change func(p *api.Piece)) {
		p := made(standard("lute6"), "C 1b 3c_1; - ~; - 1a 2a")
		change(&p)
		if piece.Check(p) != e {
			panic(name)
		}
		l = append(l, brokenPiece{name, p, e})
	}
	add("a piece without courses", api.ErrInstrument, func(p *api.Piece) { p.Instrument.Courses = nil })
	add("a piece with too many steps", api.ErrMany, func(p *api.Piece) { p.Instrument.Steps = slices.Repeat([]int{1}, 19) })
	add("a piece with too many frets", api.ErrFret, func(p *api.Piece) { p.Instrument.Courses[5].Frets = 9 })
	add("a piece with a high course", api.ErrPitch, func(p *api.Piece) { p.Instrument.Courses[0].Pitch = 120 })
	add("a piece with too many events", api.ErrMany, func(p *api.Piece) { p.Events = slices.Repeat(p.Events[2:], 401) })
	add("a piece without a sign", api.ErrSign, func(p *api.Piece) { p.Events[0].Sign = api.Sign{} })
	add("a piece with a sign of both kinds", api.ErrSign, func(p *api.Piece) { p.Events[1].Sign = api.Sign{Value: 4, Dot: true, Three: true} })
	add("a piece with a first tie", api.ErrTie, func(p *api.Piece) { p.Events[0].Stops, p.Events[0].Tie = nil, true })
	add("a piece with a tie with notes", api.ErrTie, func(p *api.Piece) { p.Events[2].Tie = true })
	add("a piece with a course 7", api.ErrCourse, func(p *api.Piece) { p.Events[2].Stops[1].Course = 7 })
	add("a piece with a fret 9", api.ErrFret, func(p *api.Piece) { p.Events[2].Stops[1].Fret = 9 })
	add("a piece in disorder", api.ErrOrder, func(p *api.Piece) { p.Events[2].Stops[1].Course = 1 })
	add("a piece with an unknown mark", api.ErrMark, func(p *api.Piece) { p.Events[2].Stops[1].Grace = 5 })
	add("a piece with a long hold", api.ErrHold, func(p *api.Piece) { p.Events[0].Stops[1].Hold = 3 })
	return l
}

// wide is an instrument with as many courses and frets as there may be.
func wide() api.Instrument {
	in := api.Instrument{}
	for i := range 14 {
		in.Courses = append(in.Courses, api.Course{Pitch: 70 - 3*i, Frets: 18, Octave: i%2 > 0})
	}
	for i := range 18 {
		in.Steps = append(in.Steps, i+1)
	}
	return in
}

// anyInstrument returns a valid instrument: a standard one, or one whose courses lie close together.
func anyInstrument(r *rand.Rand) api.Instrument {
	names := instrument.Names()
	if k := r.IntN(2 * len(names)); k < len(names) {
		return standard(names[k])
	} else if k == len(names) {
		return wide()
	}
	in := api.Instrument{Steps: []int{}}
	step := 0
	for range r.IntN(19) {
		step += 1 + r.IntN(2)
		in.Steps = append(in.Steps, step)
	}
	for range 1 + r.IntN(14) {
		in.Courses = append(in.Courses, api.Course{Pitch: 50 + r.IntN(12), Frets: r.IntN(len(in.Steps) + 1), Octave: r.IntN(2) > 0})
	}
	return in
}

// random returns a valid piece. Every other one has no triplets: only such ones can be said in German.
func random(r *rand.Rand, in api.Instrument, count int) api.Piece {
	p := api.Piece{Instrument: in}
	thirds := r.IntN(2) > 0
	for i := range count {
		ev := api.Event{Bar: r.IntN(4) == 0}
		if i == 0 || r.IntN(3) > 0 {
			ev.Sign = api.Sign{Value: 1 + r.IntN(7), Dot: r.IntN(3) == 0}
			ev.Sign.Three = thirds && !ev.Sign.Dot && r.IntN(3) == 0
		}
		switch kind := r.IntN(8); {
		case kind == 0:
		case kind < 3:
			ev.Tie = i > 0
		default:
			ev.Stops = randomStops(r, in)
		}
		p.Events = append(p.Events, ev)
	}
	for i, ev := range p.Events {
		for j, st := range ev.Stops {
			if most := piece.Longest(p, i, st.Course); st.Fret > 0 && r.IntN(3) > 0 {
				ev.Stops[j].Hold = most - r.IntN(most+1)*r.IntN(2)
			}
		}
	}
	return p
}

func randomStops(r *rand.Rand, in api.Instrument) []api.Stop {
	var l []api.Stop
	apart := 1 + r.IntN(6)
	for i, c := range in.Courses {
		if r.IntN(apart) == 0 {
			l = append(l, api.Stop{Course: i + 1, Fret: r.IntN(c.Frets + 1), Right: r.IntN(4) * r.IntN(2), Grace: r.IntN(5) * r.IntN(2)})
		}
	}
	return l
}

// pieces are valid pieces of all kinds.
func pieces() []api.Piece {
	r := rand.New(rand.NewPCG(7, 8))
	l := []api.Piece{made(standard("lute6"), ""), made(standard("theorbo14"), ""), {Instrument: api.Instrument{Courses: []api.Course{{}}}}}
	for range 400 {
		l = append(l, random(r, anyInstrument(r), r.IntN(16)))
	}
	return append(l, random(r, standard("lute7"), 400), random(r, wide(), 399))
}

// settled returns a piece whose notes and events without stops are settled as the document says: fates tells for each stop of p what becomes of it (nil: it is left out). Its losses are complete if the holds are.
func settled(p api.Piece, in api.Instrument, fates [][]*api.Stop) api.Piece {
	q := copied(p)
	q.Instrument = in
	for i := range q.Events {
		ev := &q.Events[i]
		ev.Stops = nil
		for course := 1; course <= len(in.Courses); course++ {
			for _, st := range fates[i] {
				if st != nil && st.Course == course {
					ev.Stops = append(ev.Stops, *st)
				}
			}
		}
		if len(p.Events[i].Stops) > 0 && len(ev.Stops) == 0 {
			ev.Tie = i > 0
		}
	}
	return q
}

// holdsFitted shortens the holds that no longer fit.
func holdsFitted(q api.Piece) {
	for i, ev := range q.Events {
		for j, st := range ev.Stops {
			for st.Hold > 0 && (st.Fret == 0 || st.Hold > piece.Longest(q, i, st.Course)) {
				st.Hold--
			}
			ev.Stops[j].Hold = st.Hold
		}
	}
}

// onCourse returns the stop of an event on a course.
func onCourse(ev api.Event, course int) api.Stop {
	for _, st := range ev.Stops {
		if st.Course == course {
			return st
		}
	}
	panic("no such stop")
}

// noteLosses returns the losses of the notes of an event.
func noteLosses(number int, before, after api.Event, fates []*api.Stop) []api.Lack {
	var l []api.Lack
	for j, st := range before.Stops {
		if fates[j] == nil {
			l = append(l, api.Lack{Event: number, Course: st.Course, What: api.LackNote})
			continue
		}
		now := onCourse(after, fates[j].Course)
		if now.Right != st.Right {
			l = append(l, api.Lack{Event: number, Course: st.Course, What: api.LackRight})
		}
		if now.Grace != st.Grace {
			l = append(l, api.Lack{Event: number, Course: st.Course, What: api.LackGrace})
		}
		if now.Hold != st.Hold {
			l = append(l, api.Lack{Event: number, Course: st.Course, What: api.LackHold})
		}
	}
	return l
}

// carriedOver is the result of a function that changes notes alone.
func carriedOver(p api.Piece, in api.Instrument, fates [][]*api.Stop) result {
	q := settled(p, in, fates)
	holdsFitted(q)
	var lost []api.Lack
	for i := range p.Events {
		lost = append(lost, noteLosses(i, p.Events[i], q.Events[i], fates[i])...)
	}
	return result{q, lost, api.OK}
}

// fatesOf asks for each stop of a piece what becomes of it.
func fatesOf(p api.Piece, fate func(st api.Stop) (api.Stop, bool)) [][]*api.Stop {
	var l [][]*api.Stop
	for _, ev := range p.Events {
		var row []*api.Stop
		for _, st := range ev.Stops {
			if now, ok := fate(st); ok {
				row = append(row, &now)
			} else {
				row = append(row, nil)
			}
		}
		l = append(l, row)
	}
	return l
}
