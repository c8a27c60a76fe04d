package notation

import (
	"slices"
	"strings"

	"theorbo/api"
	"theorbo/instrument"
	"theorbo/piece"
)

const (
	heading  = "tablature "
	lineEnd  = "\n"
	space    = " "
	barWord  = "|"
	tieWord  = "~"
	restWord = "%"
	noNote   = "-"
)

// Lacks returns what a system cannot say of a piece.
func Lacks(sys api.System, p api.Piece) ([]api.Lack, api.Errno) {
	way, e := systemFor(sys, p)
	if e != api.OK {
		return nil, e
	}
	var lacks []api.Lack
	for number := range p.Events {
		lacks = append(lacks, lacksOf(way, p, number)...)
	}
	return lacks, api.OK
}

// systemFor returns the system in which a piece is to be said, and the first error of both.
func systemFor(sys api.System, p api.Piece) (system, api.Errno) {
	way, ok := systemOf(sys)
	if !ok {
		return nil, api.ErrSystem
	}
	return way, piece.Check(p)
}

// lacksOf returns what a system cannot say of an event of a valid piece.
func lacksOf(way system, p api.Piece, number int) []api.Lack {
	ev := p.Events[number]
	var lacks []api.Lack
	for _, what := range needs(ev) {
		if way.lacks(what) {
			lacks = append(lacks, api.Lack{Event: number, What: what})
		}
	}
	for _, st := range ev.Stops {
		for _, what := range lacksOfStop(way, st, piece.Longest(p, number, st.Course)) {
			lacks = append(lacks, api.Lack{Event: number, Course: st.Course, What: what})
		}
	}
	return lacks
}

// needs returns what an event itself has that a system may lack.
func needs(ev api.Event) []int {
	whats := signNeeds(ev.Sign)
	switch {
	case ev.Tie:
		return append(whats, api.LackTie)
	case len(ev.Stops) == 0:
		return append(whats, api.LackRest)
	}
	return whats
}

// Can reports whether a system can say a piece.
func Can(sys api.System, p api.Piece) bool {
	lacks, e := Lacks(sys, p)
	return e == api.OK && len(lacks) == 0
}

// Column returns the text of an event.
func Column(sys api.System, p api.Piece, event int) (string, api.Errno) {
	way, e := systemFor(sys, p)
	if e != api.OK {
		return "", e
	}
	if event < 0 || event >= len(p.Events) {
		return "", api.ErrArg
	}
	if len(lacksOf(way, p, event)) > 0 {
		return "", api.ErrCannot
	}
	return column(way, p, event), api.OK
}

// column returns the column of an event of which the system lacks nothing.
func column(way system, p api.Piece, number int) string {
	ev := p.Events[number]
	var words []string
	if ev.Bar {
		words = append(words, barWord)
	}
	words = append(words, timeWord(ev.Sign))
	switch {
	case ev.Tie:
		words = append(words, tieWord)
	case len(ev.Stops) == 0:
		words = append(words, restWord)
	default:
		words = append(words, cells(way, p, number)...)
	}
	return strings.Join(words, space)
}

// cells returns the words of the notes of a chord, as they stand.
func cells(way system, p api.Piece, number int) []string {
	staff := staffOf(way, p.Instrument)
	inside := slices.Repeat([]string{noNote}, len(staff))
	var outside []string
	for _, st := range p.Events[number].Stops {
		text := cell(way, st, piece.Longest(p, number, st.Course))
		if line := slices.Index(staff, st.Course); line >= 0 {
			inside[line] = text
		} else {
			outside = append(outside, text)
		}
	}
	if way.lowFirst() {
		slices.Reverse(outside)
		return slices.Concat(outside, inside)
	}
	return slices.Concat(inside, outside)
}

// Write returns the text of a piece.
func Write(sys api.System, p api.Piece) (string, api.Errno) {
	way, e := systemFor(sys, p)
	if e != api.OK {
		return "", e
	}
	// The instrument of a valid piece has a text.
	in, _ := instrument.Format(p.Instrument)
	lines := []string{heading + way.name(), in}
	for number := range p.Events {
		if len(lacksOf(way, p, number)) > 0 {
			return "", api.ErrCannot
		}
		lines = append(lines, column(way, p, number))
	}
	return strings.Join(lines, lineEnd) + lineEnd, api.OK
}
