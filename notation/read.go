package notation

import (
	"cmp"
	"slices"
	"strings"

	"theorbo/api"
	"theorbo/instrument"
	"theorbo/piece"
)

// The lines of a text, counted from 1.
const (
	systemLine     = 1
	instrumentLine = 2
	firstColumn    = 3
)

// fault is what is wrong with a line of a text. The reader panics with it.
type fault struct {
	line int
	e    api.Errno
}

// require panics unless something is so.
func require(so bool, line int, e api.Errno) {
	if !so {
		panic(fault{line, e})
	}
}

// Read returns the system and the piece of a text.
func Read(t string) (sys api.System, p api.Piece, line int, e api.Errno) {
	defer func() {
		if f, ok := recover().(fault); ok {
			line, e = f.line, f.e
		}
	}()
	sys, p = readText(t)
	return sys, p, 0, api.OK
}

func readText(t string) (api.System, api.Piece) {
	require(len(t) <= api.MaxText, 0, api.ErrMany)
	lines := linesOf(t)
	sys := readSystem(lines)
	way, _ := systemOf(sys)
	p := api.Piece{Instrument: readInstrument(lines)}
	afterLast := firstColumn + api.MaxEvents
	require(len(lines) < afterLast, afterLast, api.ErrMany)
	for line := firstColumn; line <= len(lines); line++ {
		r := columnReader{way, p.Instrument, line}
		p.Events = append(p.Events, r.event(lineAt(lines, line)))
	}
	settleHolds(way, p)
	return sys, p
}

// linesOf returns the lines of a text with their ends.
func linesOf(t string) []string {
	lines := strings.SplitAfter(t, lineEnd)
	if last := len(lines) - 1; lines[last] == "" {
		return lines[:last]
	}
	return lines
}

// lineAt returns a line without its end.
func lineAt(lines []string, number int) string {
	require(number <= len(lines), number, api.ErrForm)
	text, ended := strings.CutSuffix(lines[number-1], lineEnd)
	require(ended, number, api.ErrForm)
	return text
}

func readSystem(lines []string) api.System {
	name, ok := strings.CutPrefix(lineAt(lines, systemLine), heading)
	require(ok, systemLine, api.ErrForm)
	sys, e := ParseSystem(name)
	require(e == api.OK, systemLine, e)
	return sys
}

func readInstrument(lines []string) api.Instrument {
	in, e := instrument.Parse(lineAt(lines, instrumentLine))
	require(e == api.OK, instrumentLine, e)
	return in
}

// columnReader reads the column of one line.
type columnReader struct {
	way        system
	instrument api.Instrument
	line       int
}

func (r columnReader) require(so bool, e api.Errno) {
	require(so, r.line, e)
}

func (r columnReader) event(text string) api.Event {
	words := strings.Split(text, space)
	ev := api.Event{Bar: words[0] == barWord}
	if ev.Bar {
		words = words[1:]
	}
	r.require(len(words) > 1, api.ErrForm)
	ev.Sign = r.sign(words[0])
	notes := words[1:]
	switch {
	case r.isWord(notes, tieWord, api.LackTie):
		ev.Tie = true
	case !r.isWord(notes, restWord, api.LackRest):
		ev.Stops = r.stops(notes)
	}
	first := r.line == firstColumn
	r.require(!first || written(ev.Sign), api.ErrSign)
	r.require(!first || !ev.Tie, api.ErrTie)
	for _, st := range ev.Stops {
		_, e := instrument.At(r.instrument, placeOf(st))
		r.require(e == api.OK, e)
	}
	return ev
}

func (r columnReader) sign(word string) api.Sign {
	sign, ok := readTime(r.way, word)
	r.require(ok, api.ErrForm)
	return sign
}

// isWord reports whether one word stands in the place of the notes, and the system has it.
func (r columnReader) isWord(notes []string, word string, lack int) bool {
	return len(notes) == 1 && notes[0] == word && !r.way.lacks(lack)
}

// stops returns the notes of a chord in ascending order of their courses.
func (r columnReader) stops(cells []string) []api.Stop {
	staff := staffOf(r.way, r.instrument)
	count := len(cells) - len(staff)
	r.require(count >= 0, api.ErrForm)
	inside, outside := cells[:len(staff)], cells[len(staff):]
	if r.way.lowFirst() {
		inside, outside = cells[count:], cells[:count]
		slices.Reverse(outside)
	}
	var stops []api.Stop
	for line, text := range inside {
		if text != noNote {
			stops = append(stops, r.stop(staff[line], text))
		}
	}
	before := 0
	for _, text := range outside {
		st := r.stop(0, text)
		r.require(st.Course > before, api.ErrForm)
		before = st.Course
		stops = append(stops, st)
	}
	r.require(len(stops) > 0, api.ErrForm)
	slices.SortFunc(stops, func(a, b api.Stop) int { return cmp.Compare(a.Course, b.Course) })
	return stops
}

// stop reads a cell as if the longest of all holds were possible.
func (r columnReader) stop(course int, text string) api.Stop {
	st, ok := readCell(r.way, course, text, api.MaxHold)
	r.require(ok, api.ErrForm)
	return st
}

// settleHolds reads the marks of the holds again, now that it is known which hold is the longest one.
func settleHolds(way system, p api.Piece) {
	for number, ev := range p.Events {
		for i, st := range ev.Stops {
			mark := holdMark(way, st.Hold, api.MaxHold)
			hold, ok := findHold(way, mark, piece.Longest(p, number, st.Course))
			require(ok, firstColumn+number, api.ErrHold)
			ev.Stops[i].Hold = hold
		}
	}
}
