package sound_test

import (
	"fmt"
	"math"
	"math/rand/v2"
	"slices"
	"strconv"
	"strings"
	"testing"

	"theorbo/api"
	"theorbo/instrument"
	"theorbo/piece"
	"theorbo/sound"
)

// hostile are arguments that no range allows, and the ends of common ranges.
var hostile = []int{math.MinInt, math.MinInt + 1, -1 << 62, -19, -2, -1, 0, 1, 2, 3, 7, 8, 14, 15, 16, 18, 47, 48, 127, 128, 399, 400, 1 << 62, math.MaxInt - 1, math.MaxInt}

func standard(name string) api.Instrument {
	in, e := instrument.Standard(name)
	if e != api.OK {
		panic(name)
	}
	return in
}

// made makes a piece of events in this notation, separated by semicolons: `|` for a bar line, the sign (`-` for none, a value, `.` for a dot, `t` for a triplet), then `~`, `%` or stops, course/fret with `h` and the hold: `4 1/2h1 6/0; | 3. ~; - %`.
func made(in api.Instrument, columns string) api.Piece {
	p := api.Piece{Instrument: in}
	if columns == "" {
		return p
	}
	for column := range strings.SplitSeq(columns, ";") {
		p.Events = append(p.Events, eventOf(strings.Fields(column)))
	}
	return p
}

// lute makes a piece for lute6.
func lute(columns string) api.Piece {
	return made(standard("lute6"), columns)
}

func eventOf(words []string) api.Event {
	var ev api.Event
	if words[0] == "|" {
		ev.Bar = true
		words = words[1:]
	}
	if words[0] != "-" {
		ev.Sign = api.Sign{Value: number(words[0][:1]), Dot: words[0][1:] == ".", Three: words[0][1:] == "t"}
	}
	for _, w := range words[1:] {
		switch w {
		case "~":
			ev.Tie = true
		case "%":
		default:
			course, rest, _ := strings.Cut(w, "/")
			fret, hold, held := strings.Cut(rest, "h")
			st := api.Stop{Course: number(course), Fret: number(fret)}
			if held {
				st.Hold = number(hold)
			}
			ev.Stops = append(ev.Stops, st)
		}
	}
	return ev
}

func number(t string) int {
	n, err := strconv.Atoi(t)
	if err != nil {
		panic(err)
	}
	return n
}

// shown writes a piece in the notation of made, with its instrument.
func shown(p api.Piece) string {
	var columns []string
	for _, ev := range p.Events {
		column := "-"
		if ev.Sign != (api.Sign{}) {
			column = fmt.Sprint(ev.Sign.Value) + map[bool]string{true: "."}[ev.Sign.Dot] + map[bool]string{true: "t"}[ev.Sign.Three]
		}
		if ev.Bar {
			column = "| " + column
		}
		if ev.Tie {
			column += " ~"
		} else if len(ev.Stops) == 0 {
			column += " %"
		}
		for _, st := range ev.Stops {
			column += fmt.Sprintf(" %d/%dh%d", st.Course, st.Fret, st.Hold)
			if st.Right != 0 || st.Grace != 0 {
				column += fmt.Sprintf("r%dg%d", st.Right, st.Grace)
			}
		}
		columns = append(columns, column)
	}
	return fmt.Sprint(strings.Join(columns, "; "), " on ", p.Instrument)
}

// roomy copies a piece into lists that have room behind their ends, also the empty ones.
func roomy(p api.Piece) api.Piece {
	q := api.Piece{
		Instrument: api.Instrument{
			Courses: append(make([]api.Course, 0, 20), p.Instrument.Courses...),
			Steps:   append(make([]int, 0, 20), p.Instrument.Steps...),
		},
		Events: make([]api.Event, 0, len(p.Events)+3),
	}
	for _, ev := range p.Events {
		ev.Stops = append(make([]api.Stop, 0, 20), ev.Stops...)
		q.Events = append(q.Events, ev)
	}
	return q
}

// whole shows a piece with the room behind the ends of its lists.
func whole(p api.Piece) string {
	in := p.Instrument
	t := fmt.Sprint(shown(p), in.Courses[:cap(in.Courses)], in.Steps[:cap(in.Steps)], p.Events[:cap(p.Events)])
	for _, ev := range p.Events {
		t += fmt.Sprint(ev.Stops[:cap(ev.Stops)])
	}
	return t
}

// brokenPiece is a piece that is not valid, with the error of piece.Check.
type brokenPiece struct {
	name string
	p    api.Piece
	e    api.Errno
}

func broken() []brokenPiece {
	var l []brokenPiece
	add := func(name string, e api.Errno, change func(p *api.Piece)) {
		p := lute("4 1/1 3/2h1; - ~; - 1/0 2/0")
		change(&p)
		if piece.Check(p) != e {
			panic(name)
		}
		l = append(l, brokenPiece{name, p, e})
	}
	add("no courses", api.ErrInstrument, func(p *api.Piece) { p.Instrument.Courses = nil })
	add("too many steps", api.ErrMany, func(p *api.Piece) { p.Instrument.Steps = slices.Repeat([]int{1}, 19) })
	add("too many frets", api.ErrFret, func(p *api.Piece) { p.Instrument.Courses[5].Frets = 9 })
	add("a high course", api.ErrPitch, func(p *api.Piece) { p.Instrument.Courses[0].Pitch = 120 })
	add("a high octave string", api.ErrPitch, func(p *api.Piece) { p.Instrument.Courses[0] = api.Course{Pitch: 116, Octave: true} })
	add("too many events", api.ErrMany, func(p *api.Piece) { p.Events = slices.Repeat(p.Events[2:], 401) })
	add("no sign", api.ErrSign, func(p *api.Piece) { p.Events[0].Sign = api.Sign{} })
	add("a sign of both kinds", api.ErrSign, func(p *api.Piece) { p.Events[1].Sign = api.Sign{Value: 4, Dot: true, Three: true} })
	add("a first tie", api.ErrTie, func(p *api.Piece) { p.Events[0].Stops, p.Events[0].Tie = nil, true })
	add("a tie with notes", api.ErrTie, func(p *api.Piece) { p.Events[2].Tie = true })
	add("a course 7", api.ErrCourse, func(p *api.Piece) { p.Events[2].Stops[1].Course = 7 })
	add("a course 0", api.ErrCourse, func(p *api.Piece) { p.Events[0].Stops[0].Course = 0 })
	add("a fret 9", api.ErrFret, func(p *api.Piece) { p.Events[2].Stops[1].Fret = 9 })
	add("a fret below 0", api.ErrFret, func(p *api.Piece) { p.Events[2].Stops[1].Fret = -1 })
	add("disorder", api.ErrOrder, func(p *api.Piece) { p.Events[2].Stops[1].Course = 1 })
	add("an unknown mark", api.ErrMark, func(p *api.Piece) { p.Events[2].Stops[1].Grace = 5 })
	add("a long hold", api.ErrHold, func(p *api.Piece) { p.Events[0].Stops[1].Hold = 3 })
	add("a hold below 0", api.ErrHold, func(p *api.Piece) { p.Events[0].Stops[1].Hold = -1 })
	return l
}

// wide is an instrument with as many courses and frets as there may be; every second course has an octave string.
func wide() api.Instrument {
	var in api.Instrument
	for i := range api.MaxCourses {
		in.Courses = append(in.Courses, api.Course{Pitch: 70 - 3*i, Frets: api.MaxFrets, Octave: i%2 > 0})
	}
	for i := range api.MaxFrets {
		in.Steps = append(in.Steps, i+1)
	}
	return in
}

// anyInstrument returns a valid instrument: a standard one, or one whose courses lie close together.
func anyInstrument(r *rand.Rand) api.Instrument {
	names := instrument.Names()
	if k := r.IntN(2 * len(names)); k < len(names) {
		return standard(names[k])
	} else if k == len(names) {
		return wide()
	}
	var in api.Instrument
	step := 0
	for range r.IntN(19) {
		step += 1 + r.IntN(2)
		in.Steps = append(in.Steps, step)
	}
	for range 1 + r.IntN(14) {
		in.Courses = append(in.Courses, api.Course{Pitch: 50 + r.IntN(12), Frets: r.IntN(len(in.Steps) + 1), Octave: r.IntN(2) > 0})
	}
	return in
}

// random returns a valid piece.
func random(r *rand.Rand, in api.Instrument, count int) api.Piece {
	p := api.Piece{Instrument: in}
	apart := 1 + r.IntN(6)
	ties := r.IntN(5)
	for i := range count {
		ev := api.Event{Bar: r.IntN(4) == 0}
		if i == 0 || r.IntN(3) > 0 {
			ev.Sign = api.Sign{Value: 1 + r.IntN(7), Dot: r.IntN(3) == 0}
			ev.Sign.Three = !ev.Sign.Dot && r.IntN(6) == 0
		}
		switch kind := r.IntN(9); {
		case kind == 0:
		case kind <= ties:
			ev.Tie = i > 0
		default:
			ev.Stops = randomStops(r, in, apart)
		}
		p.Events = append(p.Events, ev)
	}
	for i, ev := range p.Events {
		for j, st := range ev.Stops {
			if most := piece.Longest(p, i, st.Course); st.Fret > 0 && r.IntN(3) > 0 {
				ev.Stops[j].Hold = r.IntN(most + 1)
			}
		}
	}
	return p
}

func randomStops(r *rand.Rand, in api.Instrument, apart int) []api.Stop {
	var l []api.Stop
	for i, c := range in.Courses {
		if r.IntN(apart) == 0 {
			l = append(l, api.Stop{Course: i + 1, Fret: r.IntN(c.Frets+1) * r.IntN(2), Right: r.IntN(4), Grace: r.IntN(5)})
		}
	}
	return l
}

// pieces are valid pieces of all kinds.
func pieces() []api.Piece {
	r := rand.New(rand.NewPCG(9, 10))
	l := []api.Piece{
		lute(""), {Instrument: api.Instrument{Courses: []api.Course{{}}}}, lute("4 %"), lute("4 %; - ~; - %"),
		lute("4 1/2h1 6/0; - 2/3; - ~; - %"), made(standard("theorbo14"), "3 1/2 14/0; - ~; 4. 13/0"),
		{Instrument: api.Instrument{Courses: []api.Course{{}, {Pitch: 115, Octave: true}, {Pitch: 127}}}, Events: lute("1. 1/0 2/0 3/0; 7t 1/0").Events},
	}
	for range 400 {
		l = append(l, random(r, anyInstrument(r), r.IntN(20)))
	}
	return append(l, random(r, standard("lute6"), 400), random(r, wide(), 399))
}

// heard is a note as the tests hear it: what it is, how long it lasts and why it ends.
type heard struct {
	event, course, fret, pitch, from, to, cause, hold int
}

// listen goes through a valid piece event by event, and tells of each course whether its note goes on. The notes come in order of their events and then of their courses.
func listen(p api.Piece) []heard {
	times, e := piece.Onsets(p)
	if e != api.OK {
		panic("not valid")
	}
	var all []*heard
	on := map[int]*heard{} // what sounds on a course
	for i, ev := range p.Events {
		played := map[int]bool{}
		for _, st := range ev.Stops {
			played[st.Course] = true
		}
		for course, n := range on {
			switch {
			case played[course]:
				n.cause = 1
			case len(ev.Stops) == 0 && !ev.Tie:
				n.cause = 2
			case n.fret > 0 && n.hold == 0 && !ev.Tie:
				n.cause = 3
			case n.hold > 0:
				n.hold--
			}
			if n.cause > 0 {
				n.to = times[i]
				delete(on, course)
			}
		}
		for _, st := range ev.Stops {
			n := &heard{event: i, course: st.Course, fret: st.Fret, pitch: p.Instrument.Courses[st.Course-1].Pitch, from: times[i], hold: st.Hold}
			if st.Fret > 0 {
				n.pitch += p.Instrument.Steps[st.Fret-1]
			}
			on[st.Course] = n
			all = append(all, n)
		}
	}
	for _, n := range on {
		n.to, n.cause = times[len(times)-1], 4
	}
	var l []heard
	for _, n := range all {
		l = append(l, *n)
	}
	return l
}

func (h heard) note() api.Note {
	return api.Note{Event: h.event, Course: h.course, Pitch: h.pitch, From: h.from, To: h.to}
}

// endOf returns the end of a valid piece.
func endOf(p api.Piece) int {
	times, e := piece.Onsets(p)
	if e != api.OK {
		panic("not valid")
	}
	return times[len(times)-1]
}

// caller is a function of the package whose result is shown as text; an empty list is `[]`.
type caller struct {
	name string
	call func(p api.Piece) (string, api.Errno)
}

func callerOf[T any](name string, f func(p api.Piece) ([]T, api.Errno)) caller {
	return caller{name, func(p api.Piece) (string, api.Errno) {
		l, e := f(p)
		return fmt.Sprint(l), e
	}}
}

// callers are all functions that get a piece; At and Ringing get the first time and the first event, too.
func callers() []caller {
	return []caller{
		callerOf("Presses", sound.Presses), callerOf("Notes", sound.Notes), callerOf("Strings", sound.Strings),
		callerOf("Tones", sound.Tones), callerOf("Causes", sound.Causes), callerOf("Courses", sound.Courses),
		callerOf("At 0", func(p api.Piece) ([]int, api.Errno) { return sound.At(p, 0) }),
		callerOf("Sonorities", sound.Sonorities), callerOf("Clashes", sound.Clashes),
		callerOf("Melody", sound.Melody), callerOf("Ground", sound.Ground),
		callerOf("Ringing 0", func(p api.Piece) ([]api.Note, api.Errno) { return sound.Ringing(p, 0) }),
	}
}

// wants compares a list that a function has returned without an error with the right one, written as fmt does, without the outer brackets.
func wants[T any](t *testing.T, call string, got []T, e api.Errno, want string) {
	t.Helper()
	if e != api.OK || fmt.Sprint(got) != "["+want+"]" {
		t.Fatalf("%s = %v, %d; it should be [%s]", call, got, e, want)
	}
}

// refuses compares what a function has returned with an error.
func refuses[T any](t *testing.T, call string, got []T, e, want api.Errno) {
	t.Helper()
	if e != want || len(got) > 0 {
		t.Errorf("%s = %v, %d; the error should be %d", call, got, e, want)
	}
}
