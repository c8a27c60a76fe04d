package consort_test

import (
	"fmt"
	"math"
	"math/rand/v2"
	"slices"
	"strings"
	"testing"

	"theorbo/api"
	"theorbo/consort"
	"theorbo/instrument"
	"theorbo/notation"
	"theorbo/piece"
	"theorbo/sound"
)

// hostile are arguments that no range allows, and the ends of common ranges.
var hostile = []int{math.MinInt, math.MinInt + 1, -1 << 62, -2, -1, 0, 1, 2, 5, 6, 7, 12, 14, 18, 24, 25, 100, 101, 127, 128, 192, 193, 400, 401, 262144, 262145, 1 << 62, math.MaxInt - 1, math.MaxInt}

// Instruments, as instrument.Format writes them.
const (
	lute6 = "G4/8 D4/8 A3/8 F3/8+ C3/8+ G2/8+ : 1 2 3 4 5 6 7 8"
	pair  = "C4/5 G3/5 : 1 2 3 4 5" // of courses
)

func strung(text string) api.Instrument {
	in, e := instrument.Parse(text)
	if e != api.OK {
		panic(text)
	}
	return in
}

func standard(name string) api.Instrument {
	in, e := instrument.Standard(name)
	if e != api.OK {
		panic(name)
	}
	return in
}

// read reads the events of a piece, separated by semicolons, in the French system: `M a -; - - c; Q %`.
func read(in, events string) api.Piece {
	text := "tablature french\n" + in + "\n"
	if events != "" {
		text += strings.ReplaceAll(events, "; ", "\n") + "\n"
	}
	_, p, line, e := notation.Read(text)
	if e != api.OK {
		panic(fmt.Sprint("line ", line, " of ", text, ": ", e))
	}
	return p
}

// reads reads the pieces of a consort, which may be of different lengths, separated by slashes, all for one instrument.
func reads(in, pieces string) api.Consort {
	var c api.Consort
	for events := range strings.SplitSeq(pieces, "/") {
		c.Pieces = append(c.Pieces, read(in, strings.TrimSpace(events)))
	}
	return c
}

// example is C of the document.
func example() api.Consort {
	return reads(lute6, "M a - - - - -; M c - - - - - / S - - - - - a")
}

// player returns a player of a valid consort.
func player(c api.Consort) *consort.Player {
	p, e := consort.New(c)
	if e != api.OK || p == nil {
		panic(fmt.Sprint("no player: ", e))
	}
	return p
}

// rests are events that are as long as the document says a piece is shorter than another one.
func rests(ticks int) []api.Event {
	signs, e := piece.Signs(ticks)
	if e != api.OK {
		panic(ticks)
	}
	var l []api.Event
	for _, s := range signs {
		l = append(l, api.Event{Sign: s})
	}
	return l
}

func lengthOf(p api.Piece) int {
	onsets, e := piece.Onsets(p)
	if e != api.OK {
		panic(e)
	}
	return onsets[len(onsets)-1]
}

func notesOf(p api.Piece) []api.Note {
	notes, e := sound.Notes(p)
	if e != api.OK {
		panic(e)
	}
	return notes
}

// anyPiece returns a valid piece of some length, which is a multiple of 12.
func anyPiece(r *rand.Rand, in api.Instrument, length int) api.Piece {
	p := api.Piece{Instrument: in}
	apart, quiet := 1+r.IntN(4), 1+3*r.IntN(2)
	for length > 0 {
		signs, _ := piece.Signs(min(length, 12*(1+r.IntN(12))))
		length -= piece.Ticks(signs[0])
		ev := api.Event{Bar: r.IntN(4) == 0, Sign: signs[0]}
		switch kind := r.IntN(8); {
		case kind == 0:
			ev.Tie = len(p.Events) > 0
		case kind >= quiet:
			ev.Stops = anyStops(r, in, apart)
		}
		p.Events = append(p.Events, ev)
	}
	for i, ev := range p.Events {
		for j, st := range ev.Stops {
			if most := piece.Longest(p, i, st.Course); st.Fret > 0 && r.IntN(2) > 0 {
				ev.Stops[j].Hold = r.IntN(most + 1)
			}
		}
	}
	return p
}

func anyStops(r *rand.Rand, in api.Instrument, apart int) []api.Stop {
	var l []api.Stop
	for i, c := range in.Courses {
		if r.IntN(apart) == 0 {
			l = append(l, api.Stop{Course: i + 1, Fret: r.IntN(c.Frets+1) * r.IntN(2), Right: r.IntN(4), Grace: r.IntN(5)})
		}
	}
	return l
}

// anyInstrument returns a standard instrument, or one with two courses.
func anyInstrument(r *rand.Rand) api.Instrument {
	names := instrument.Names()
	if k := r.IntN(2 * len(names)); k < len(names) {
		return standard(names[k])
	}
	return strung(pair)
}

// anyConsort returns a valid consort.
func anyConsort(r *rand.Rand) api.Consort {
	var c api.Consort
	length := 12 * r.IntN(80)
	for range 1 + r.IntN(api.MaxDesks) {
		c.Pieces = append(c.Pieces, anyPiece(r, anyInstrument(r), length))
	}
	if e := consort.Check(c); e != api.OK {
		panic(fmt.Sprint("no valid consort: ", e))
	}
	return c
}

// consorts are valid consorts of all kinds.
func consorts(seed uint64, count int) []api.Consort {
	r := rand.New(rand.NewPCG(seed, 1))
	l := []api.Consort{
		example(),
		reads(pair, ""),
		reads(pair, " / "),
		reads(pair, "M %"),
		reads(pair, "M % / C %; Q %; X a -; X - a / D a -; C. b_1 a; D - c; X %"),
	}
	for range count {
		l = append(l, anyConsort(r))
	}
	return l
}

// large returns a consort that has as much as one may have.
func large(r *rand.Rand) api.Consort {
	var in api.Instrument
	for i := range api.MaxCourses {
		in.Courses = append(in.Courses, api.Course{Pitch: 70 - 3*i, Frets: 1, Octave: true})
	}
	in.Steps = []int{1}
	var c api.Consort
	for i := range api.MaxDesks {
		// The desks begin at different times.
		p := api.Piece{Instrument: in, Events: rests(96 + 4*i)}
		for range 390 {
			p.Events = append(p.Events, api.Event{Sign: api.Sign{Value: 1}, Stops: anyStops(r, in, 1)})
		}
		p.Events = append(p.Events, rests(96-4*i)...)
		c.Pieces = append(c.Pieces, p)
	}
	return c
}

// brokenPiece is a piece that is not valid, with the error of piece.Check.
type brokenPiece struct {
	p api.Piece
	e api.Errno
}

func brokenPieces() []brokenPiece {
	var l []brokenPiece
	add := func(e api.Errno, change func(p *api.Piece)) {
		p := read(pair, "M b a; C - c; C ~")
		change(&p)
		if piece.Check(p) != e {
			panic(fmt.Sprint("not the error ", e))
		}
		l = append(l, brokenPiece{p, e})
	}
	add(api.ErrInstrument, func(p *api.Piece) { p.Instrument.Courses = nil })
	add(api.ErrPitch, func(p *api.Piece) { p.Instrument.Courses[1].Pitch = 128 })
	add(api.ErrMany, func(p *api.Piece) { p.Events = slices.Repeat(p.Events[:1], 401) })
	add(api.ErrSign, func(p *api.Piece) { p.Events[0].Sign = api.Sign{} })
	add(api.ErrTie, func(p *api.Piece) { p.Events[0].Tie = true })
	add(api.ErrCourse, func(p *api.Piece) { p.Events[1].Stops[0].Course = 3 })
	add(api.ErrFret, func(p *api.Piece) { p.Events[1].Stops[0].Fret = 6 })
	add(api.ErrOrder, func(p *api.Piece) { p.Events[0].Stops[1].Course = 1 })
	add(api.ErrMark, func(p *api.Piece) { p.Events[0].Stops[1].Right = 4 })
	add(api.ErrHold, func(p *api.Piece) { p.Events[0].Stops[0].Hold = 3 })
	return l
}

func sameConsort(a, b api.Consort) bool {
	return slices.EqualFunc(a.Pieces, b.Pieces, piece.Same)
}

// wants compares the text of what a call has returned without an error with the right one.
func wants(t *testing.T, call string, got any, e api.Errno, want string) {
	t.Helper()
	if e != api.OK || fmt.Sprint(got) != want {
		t.Errorf("%s = %v, %d; it should be %s", call, got, e, want)
	}
}
