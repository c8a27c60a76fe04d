package notation_test

import (
	"fmt"
	"math"
	"math/rand/v2"
	"slices"
	"strconv"
	"strings"
	"testing"

	"theorbo/api"
	"theorbo/instrument"
)

// hostile are arguments that no range allows, and the ends of common ranges.
var hostile = []int{math.MinInt, math.MinInt + 1, -1 << 62, -256, -2, -1, 0, 1, 2, 3, 4, 5, 6, 7, 8, 10, 11, 14, 15, 16, 18, 19, 255, 256, 1 << 62, math.MaxInt - 1, math.MaxInt}

var systems = []api.System{api.French, api.Italian, api.Spanish, api.German}

// noSystems are all systems that do not exist.
func noSystems() []api.System {
	l := []api.System{0}
	for sys := api.German + 1; sys != 0; sys++ {
		l = append(l, sys)
	}
	return l
}

// rows are the symbols on a line, or in the German system, of each course for the frets from 0 on.
var rows = map[api.System][]string{
	api.French:  slices.Repeat([]string{"a b c d e f g h i k l m n o p q r s t"}, 6),
	api.Italian: slices.Repeat([]string{"0 1 2 3 4 5 6 7 8 9 x"}, 6),
	api.Spanish: slices.Repeat([]string{"0 1 2 3 4 5 6 7 8 9 x"}, 6),
	api.German: {
		"5 e k p v 9 ee kk pp vv 99",
		"4 d i o t & dd ii oo tt &&",
		"3 c h n s z cc hh nn ss zz",
		"2 b g m r y bb gg mm rr yy",
		"1 a f l q x aa ff ll qq xx",
		"+ A B C D E F G H I K",
	},
}

// outsideRows are the symbols outside the staff of the courses 7 to 14.
var outsideRows = map[api.System][]string{
	api.French: {
		"a b c d e f g h i k l m n o p q r s t",
		"/a /b /c /d /e /f /g /h /i /k /l /m /n /o /p /q /r /s /t",
		"//a //b //c //d //e //f //g //h //i //k //l //m //n //o //p //q //r //s //t",
		"///a ///b ///c ///d ///e ///f ///g ///h ///i ///k ///l ///m ///n ///o ///p ///q ///r ///s ///t",
		"4", "5", "6", "7",
	},
	api.Italian: {"7", "8", "9", "x", "11", "12", "13", "14"},
	api.Spanish: {"", "", "", "", "", "", "", ""},
	api.German:  {"", "", "", "", "", "", "", ""},
}

var rights = map[api.System]map[int]string{
	api.French:  {1: ".", 2: ":", 3: "'"},
	api.Italian: {1: "."},
	api.Spanish: {},
	api.German:  {1: "."},
}

var graces = map[api.System]map[int]string{
	api.French:  {1: ",", 2: "^", 3: "#", 4: "("},
	api.Italian: {1: "t", 3: "#"},
	api.Spanish: {},
	api.German:  {3: "#"},
}

// symbolOf looks a symbol up.
func symbolOf(sys api.System, pl api.Place) (string, bool) {
	all := slices.Concat(rows[sys], outsideRows[sys])
	if pl.Course < 1 || pl.Course > len(all) {
		return "", false
	}
	row := strings.Fields(all[pl.Course-1])
	if pl.Fret < 0 || pl.Fret >= len(row) {
		return "", false
	}
	return row[pl.Fret], true
}

// placesAt are all places that have a symbol on the line of a course, or outside the staff for 0.
func placesAt(sys api.System, course int) map[string]api.Place {
	first, last := course, course
	if course == 0 {
		first, last = 7, 14
	}
	if sys == api.German {
		first, last = 1, 6
	}
	l := map[string]api.Place{}
	for c := first; c <= last; c++ {
		for fret := range 19 {
			pl := api.Place{Course: c, Fret: fret}
			symbol, ok := symbolOf(sys, pl)
			if !ok {
				continue
			}
			if other, twice := l[symbol]; twice {
				panic(fmt.Sprint(sys, other, pl))
			}
			l[symbol] = pl
		}
	}
	return l
}

// holdOf is the mark of a hold that is possible.
func holdOf(sys api.System, length, longest int) (string, bool) {
	switch {
	case length == 0:
		return "", true
	case sys == api.French:
		return "_" + strconv.Itoa(length), true
	case sys == api.Spanish || length < longest:
		return "", false
	}
	return "*", true
}

// lackOf is what a system lacks of a stop that is in its ranges.
func lackOf(sys api.System, st api.Stop, longest int) []int {
	if _, ok := symbolOf(sys, api.Place{Course: st.Course, Fret: st.Fret}); !ok {
		return []int{api.LackNote}
	}
	var l []int
	if st.Right != 0 && rights[sys][st.Right] == "" {
		l = append(l, api.LackRight)
	}
	if st.Grace != 0 && graces[sys][st.Grace] == "" {
		l = append(l, api.LackGrace)
	}
	if _, ok := holdOf(sys, st.Hold, longest); !ok {
		l = append(l, api.LackHold)
	}
	return l
}

// cellOf puts a cell together; the system must lack nothing of it.
func cellOf(sys api.System, st api.Stop, longest int) string {
	symbol, _ := symbolOf(sys, api.Place{Course: st.Course, Fret: st.Fret})
	hold, _ := holdOf(sys, st.Hold, longest)
	return symbol + rights[sys][st.Right] + graces[sys][st.Grace] + hold
}

func standard(name string) api.Instrument {
	in, e := instrument.Standard(name)
	if e != api.OK {
		panic(name)
	}
	return in
}

// made makes a piece for an instrument of events in this notation: `|` for a bar line, the sign (`-` for none, a value, `.` for a dot, `t` for a triplet), then `~`, `%` or stops: course/fret, with r, g and h for Right, Grace and Hold.
func made(name string, events ...string) api.Piece {
	p := api.Piece{Instrument: standard(name)}
	for _, t := range events {
		words := strings.Fields(t)
		sign, bar := strings.CutPrefix(words[0], "|")
		ev := api.Event{Bar: bar, Sign: signed(sign)}
		for _, w := range words[1:] {
			switch w {
			case "~":
				ev.Tie = true
			case "%":
			default:
				ev.Stops = append(ev.Stops, stopped(w))
			}
		}
		p.Events = append(p.Events, ev)
	}
	return p
}

func signed(t string) api.Sign {
	if t == "-" {
		return api.Sign{}
	}
	var s api.Sign
	t, s.Dot = strings.CutSuffix(t, ".")
	t, s.Three = strings.CutSuffix(t, "t")
	s.Value = number(t)
	return s
}

func number(t string) int {
	n, err := strconv.Atoi(t)
	if err != nil {
		panic(err)
	}
	return n
}

func stopped(t string) api.Stop {
	var st api.Stop
	fields := map[byte]*int{'/': &st.Fret, 'r': &st.Right, 'g': &st.Grace, 'h': &st.Hold}
	field, from := &st.Course, 0
	for i := range len(t) {
		if next := fields[t[i]]; next != nil {
			*field = number(t[from:i])
			field, from = next, i+1
		}
	}
	*field = number(t[from:])
	return st
}

// shown tells all of a piece: two pieces that are equal, and no others, are shown alike.
func shown(p api.Piece) string {
	t := fmt.Sprint(p.Instrument.Courses, p.Instrument.Steps)
	for _, ev := range p.Events {
		t += fmt.Sprintf("; %v", ev)
	}
	return t
}

func isZero(p api.Piece) bool {
	return len(p.Instrument.Courses) == 0 && len(p.Instrument.Steps) == 0 && len(p.Events) == 0
}

func isRest(ev api.Event) bool {
	return len(ev.Stops) == 0 && !ev.Tie
}

// longest looks for the longest hold as the document defines it.
func longest(p api.Piece, event, course int) int {
	best := 0
	for h := 1; h <= 15 && event+h < len(p.Events); h++ {
		ev := p.Events[event+h]
		if isRest(ev) || slices.ContainsFunc(ev.Stops, func(st api.Stop) bool { return st.Course == course }) {
			break
		}
		best = h
	}
	return best
}

// broken are pieces that are not valid, each with the error of piece.Check.
func broken() map[string]struct {
	p api.Piece
	e api.Errno
} {
	type row = struct {
		p api.Piece
		e api.Errno
	}
	many := made("lute6", "4 1/0")
	many.Events = slices.Repeat(many.Events, 401)
	noCourses := made("lute6", "4 1/0")
	noCourses.Instrument.Courses = nil
	highPitch := made("lute6", "4 1/0")
	highPitch.Instrument.Courses[2].Pitch = 128
	return map[string]row{
		"no courses": {noCourses, api.ErrInstrument},
		"high pitch": {highPitch, api.ErrPitch},
		"many":       {many, api.ErrMany},
		"no sign":    {made("lute6", "- 1/0"), api.ErrSign},
		"first tie":  {made("lute6", "4 ~", "- 1/0"), api.ErrTie},
		"course":     {made("lute6", "4 1/0", "4 7/0"), api.ErrCourse},
		"fret":       {made("lute6", "4 1/0", "4 1/9"), api.ErrFret},
		"order":      {made("lute6", "4 2/0 1/0"), api.ErrOrder},
		"mark":       {made("lute6", "4 1/0r4"), api.ErrMark},
		"hold":       {made("lute6", "4 1/2h1"), api.ErrHold},
	}
}

// wide is an instrument with as many courses and frets as there may be.
func wide() api.Instrument {
	in := api.Instrument{Courses: slices.Repeat([]api.Course{{Pitch: 60, Frets: 18}}, 14)}
	for i := range 18 {
		in.Steps = append(in.Steps, i+1)
	}
	return in
}

// random returns a valid piece; for a system, one that it can say.
func random(r *rand.Rand, count int, sys api.System) api.Piece {
	names := []string{"lute6", "guitar4", "guitar5", "cittern4", "lute7", "lute10", "baroque13", "theorbo14", "vihuela6"}
	p := api.Piece{Instrument: wide()}
	if k := r.IntN(len(names) + 2); k < len(names) {
		p.Instrument = standard(names[k])
	}
	for i := range count {
		ev := api.Event{Bar: r.IntN(4) == 0}
		if i == 0 || sys == api.German || r.IntN(3) > 0 {
			ev.Sign = api.Sign{Value: 1 + r.IntN(7), Dot: r.IntN(3) == 0}
			ev.Sign.Three = sys != api.German && !ev.Sign.Dot && r.IntN(3) == 0
		}
		switch kind := r.IntN(6); {
		case kind == 0 && sys != api.Spanish:
		case kind == 1 && sys != api.German && i > 0:
			ev.Tie = true
		default:
			ev.Stops = randomStops(r, p.Instrument, sys)
		}
		p.Events = append(p.Events, ev)
	}
	randomHolds(r, p, sys)
	return p
}

// randomStops returns stops for an event; at least one, if there is a system.
func randomStops(r *rand.Rand, in api.Instrument, sys api.System) []api.Stop {
	var l []api.Stop
	for i, c := range in.Courses {
		if r.IntN(3) == 0 {
			st := api.Stop{Course: i + 1, Fret: r.IntN(c.Frets + 1), Right: r.IntN(4), Grace: r.IntN(5)}
			if sys != 0 {
				st.Right *= len(rights[sys][st.Right])
				st.Grace *= len(graces[sys][st.Grace])
			}
			if _, ok := symbolOf(sys, api.Place{Course: st.Course, Fret: st.Fret}); ok || sys == 0 {
				l = append(l, st)
			}
		}
	}
	if len(l) == 0 && sys != 0 {
		return []api.Stop{{Course: 1}}
	}
	return l
}

func randomHolds(r *rand.Rand, p api.Piece, sys api.System) {
	for i, ev := range p.Events {
		for j, st := range ev.Stops {
			most := longest(p, i, st.Course)
			hold := r.IntN(most + 1)
			if _, ok := holdOf(sys, hold, most); !ok && sys != 0 {
				hold = most
			}
			if _, ok := holdOf(sys, hold, most); st.Fret > 0 && (ok || sys == 0) {
				ev.Stops[j].Hold = hold
			}
		}
	}
}

// pieces are valid pieces of all kinds; for a system, such as it can say.
func pieces(t *testing.T, sys api.System) []api.Piece {
	t.Helper()
	r := rand.New(rand.NewPCG(5, 6))
	l := []api.Piece{made("lute6"), made("theorbo14"), {Instrument: api.Instrument{Courses: []api.Course{{}}}}}
	for range 250 {
		l = append(l, random(r, r.IntN(20), sys))
	}
	return append(l, random(r, 400, sys), random(r, 399, sys))
}

// changedText changes, adds or takes away bytes of a text.
func changedText(r *rand.Rand, t string, letters string) string {
	b := []byte(t)
	for range 1 + r.IntN(2) {
		i, letter := r.IntN(len(b)+1), letters[r.IntN(len(letters))]
		switch kind := r.IntN(3); {
		case kind == 0:
			b = slices.Insert(b, i, letter)
		case i == len(b):
		case kind == 1:
			b = slices.Delete(b, i, i+1)
		default:
			b[i] = letter
		}
	}
	return string(b)
}
