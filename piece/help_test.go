package piece_test

import (
	"fmt"
	"math"
	"math/rand/v2"
	"slices"
	"strings"
	"testing"

	"theorbo/api"
	"theorbo/instrument"
)

// hostile are arguments that no range allows, and the ends of common ranges.
var hostile = []int{math.MinInt, math.MinInt + 1, -1 << 62, -4608, -7, -6, -2, -1, 0, 1, 2, 3, 6, 7, 14, 15, 16, 399, 400, 401, 4607, 4608, 4609, 1 << 62, math.MaxInt - 1, math.MaxInt}

// ticksOf are the ticks of all signs, in the notation of events.
var ticksOf = map[string]int{
	"1": 384, "2": 192, "3": 96, "4": 48, "5": 24, "6": 12, "7": 6,
	"1.": 576, "2.": 288, "3.": 144, "4.": 72, "5.": 36, "6.": 18, "7.": 9,
	"1t": 256, "2t": 128, "3t": 64, "4t": 32, "5t": 16, "6t": 8, "7t": 4,
}

func standard(name string) api.Instrument {
	in, e := instrument.Standard(name)
	if e != api.OK {
		panic(name)
	}
	return in
}

// made makes a piece for lute6 of events in this notation: `|` for a bar line, the sign (`-` for none, a value, `.` for a dot, `t` for a triplet), then `~`, `%` or stops: course/fret, with r, g and h for Right, Grace and Hold.
func made(events ...string) api.Piece {
	return api.Piece{Instrument: standard("lute6"), Events: eventsOf(events)}
}

func eventsOf(texts []string) []api.Event {
	var l []api.Event
	for _, t := range texts {
		var ev api.Event
		words := strings.Fields(t)
		sign, bar := strings.CutPrefix(words[0], "|")
		ev.Bar = bar
		ev.Sign = signed(sign)
		for _, w := range words[1:] {
			switch w {
			case "~":
				ev.Tie = true
			case "%":
			default:
				ev.Stops = append(ev.Stops, stopped(w))
			}
		}
		l = append(l, ev)
	}
	return l
}

func signed(t string) api.Sign {
	if t == "-" {
		return api.Sign{}
	}
	var s api.Sign
	t, s.Dot = strings.CutSuffix(t, ".")
	t, s.Three = strings.CutSuffix(t, "t")
	if _, err := fmt.Sscan(t, &s.Value); err != nil {
		panic(err)
	}
	return s
}

func stopped(t string) api.Stop {
	var st api.Stop
	for i := 0; i < len(t); {
		letter := byte(' ')
		if t[i] < '0' || t[i] > '9' {
			letter = t[i]
			i++
		}
		number := 0
		for ; i < len(t) && t[i] >= '0' && t[i] <= '9'; i++ {
			number = 10*number + int(t[i]-'0')
		}
		switch letter {
		case ' ':
			st.Course = number
		case '/':
			st.Fret = number
		case 'r':
			st.Right = number
		case 'g':
			st.Grace = number
		case 'h':
			st.Hold = number
		default:
			panic(t)
		}
	}
	return st
}

func shownSign(s api.Sign) string {
	t := "-"
	if s.Value != 0 {
		t = fmt.Sprint(s.Value)
	}
	if s.Three {
		t += "t"
	}
	if s.Dot {
		t += "."
	}
	return t
}

func shownEvent(ev api.Event) string {
	var t string
	if ev.Bar {
		t = "|"
	}
	t += shownSign(ev.Sign)
	if ev.Tie {
		t += " ~"
	}
	if len(ev.Stops) == 0 && !ev.Tie {
		t += " %"
	}
	for _, st := range ev.Stops {
		t += fmt.Sprintf(" %d/%d", st.Course, st.Fret)
		for i, n := range []int{st.Right, st.Grace, st.Hold} {
			if n != 0 {
				t += fmt.Sprintf("%c%d", "rgh"[i], n)
			}
		}
	}
	return t
}

func shownEvents(events []api.Event) []string {
	var l []string
	for _, ev := range events {
		l = append(l, shownEvent(ev))
	}
	return l
}

// shown tells all of a piece: two pieces that are equal, and no others, are shown alike.
func shown(p api.Piece) string {
	return fmt.Sprintf("%v %v; %s", p.Instrument.Courses, p.Instrument.Steps, strings.Join(shownEvents(p.Events), "; "))
}

func isZero(p api.Piece) bool {
	return len(p.Instrument.Courses) == 0 && len(p.Instrument.Steps) == 0 && len(p.Events) == 0
}

// wants reports a result that is not the wanted one, or an error with a result.
func wants(t *testing.T, call string, got api.Piece, e api.Errno, want api.Piece, fault api.Errno) {
	t.Helper()
	if e != fault {
		t.Fatalf("%s: error %d, want %d", call, e, fault)
	}
	if e != api.OK {
		if !isZero(got) {
			t.Fatalf("%s: error %d with a piece: %s", call, e, shown(got))
		}
		return
	}
	if shown(got) != shown(want) {
		t.Fatalf("%s:\n got %s\nwant %s", call, shown(got), shown(want))
	}
}

func isRest(ev api.Event) bool {
	return len(ev.Stops) == 0 && !ev.Tie
}

// longest looks for the longest hold as the document defines it.
func longest(p api.Piece, event, course int) int {
	if event < 0 || event >= len(p.Events) {
		return 0
	}
	best := 0
	for h := 0; h <= 15 && h < len(p.Events)-event; h++ {
		possible := true
		for i := event + 1; i <= event+h; i++ {
			ev := p.Events[i]
			possible = possible && !isRest(ev)
			for _, st := range ev.Stops {
				possible = possible && st.Course != course
			}
		}
		if possible {
			best = h
		}
	}
	return best
}

// durations are the ticks of each event of a valid piece.
func durations(p api.Piece) []int {
	var l []int
	inForce := 0
	for _, ev := range p.Events {
		if ev.Sign != (api.Sign{}) {
			inForce = ticksOf[shownSign(ev.Sign)]
		}
		l = append(l, inForce)
	}
	return l
}

func sum(l []int) int {
	total := 0
	for _, n := range l {
		total += n
	}
	return total
}

// broken are pieces that are not valid, each with the error that Check returns.
func broken() map[string]struct {
	p api.Piece
	e api.Errno
} {
	type row = struct {
		p api.Piece
		e api.Errno
	}
	many := made("4 1/0")
	for range 400 {
		many.Events = append(many.Events, many.Events[0])
	}
	noCourses := made("4 1/0")
	noCourses.Instrument.Courses = nil
	highPitch := made("4 1/0")
	highPitch.Instrument.Courses[2].Pitch = 128
	return map[string]row{
		"no courses": {noCourses, api.ErrInstrument},
		"high pitch": {highPitch, api.ErrPitch},
		"many":       {many, api.ErrMany},
		"no sign":    {made("- 1/0"), api.ErrSign},
		"first tie":  {made("4 ~", "- 1/0"), api.ErrTie},
		"course":     {made("4 1/0", "4 7/0"), api.ErrCourse},
		"fret":       {made("4 1/0", "4 1/9"), api.ErrFret},
		"order":      {made("4 2/0 1/0"), api.ErrOrder},
		"mark":       {made("4 1/0r4"), api.ErrMark},
		"hold":       {made("4 1/2h1"), api.ErrHold},
	}
}

// pieces are valid pieces of all kinds.
func pieces(t *testing.T) []api.Piece {
	t.Helper()
	long := made("4 1/2h15 3/0")
	for range 399 {
		long.Events = append(long.Events, api.Event{Tie: true})
	}
	l := []api.Piece{
		made(),
		{Instrument: api.Instrument{Courses: []api.Course{{}}}},
		made("4 %"),
		made("|4 1/0"),
		made("3 1/2h1", "4 ~", "- %"),
		made("1. 1/2h2 6/8r3g4h2", "- ~", "- ~", "|- ~", "7 ~", "|7t 1/0"),
		made("3 %", "- ~", "|- ~", "6t 2/5h1", "- 1/1"),
		long,
	}
	r := rand.New(rand.NewPCG(3, 4))
	for range 400 {
		l = append(l, random(r, r.IntN(30)))
	}
	l = append(l, random(r, 400), random(r, 399))
	return l
}

// random returns a valid piece with a number of events.
func random(r *rand.Rand, count int) api.Piece {
	names := []string{"lute6", "lute6", "cittern4", "baroque13", "theorbo14", "guitar5"}
	p := api.Piece{Instrument: standard(names[r.IntN(len(names))])}
	signs := slices.Sorted(mapKeys(ticksOf))
	if r.IntN(2) == 0 {
		signs = signs[len(signs)/2:]
	}
	for i := range count {
		ev := api.Event{Bar: r.IntN(4) == 0}
		if i == 0 || r.IntN(3) > 0 {
			ev.Sign = signed(signs[r.IntN(len(signs))])
		}
		switch kind := r.IntN(8); {
		case kind == 0:
		case kind < 4:
			ev.Tie = i > 0
		default:
			ev.Stops = randomStops(r, p.Instrument)
		}
		p.Events = append(p.Events, ev)
	}
	for i, ev := range p.Events {
		for j, st := range ev.Stops {
			if st.Fret > 0 && r.IntN(2) == 0 {
				ev.Stops[j].Hold = r.IntN(longest(p, i, st.Course) + 1)
			}
		}
	}
	return p
}

func randomStops(r *rand.Rand, in api.Instrument) []api.Stop {
	var l []api.Stop
	for i, c := range in.Courses {
		if r.IntN(len(in.Courses)) > 1 {
			continue
		}
		l = append(l, api.Stop{Course: i + 1, Fret: r.IntN(c.Frets + 1), Right: r.IntN(4), Grace: r.IntN(5)})
	}
	return l
}

func mapKeys(m map[string]int) func(func(string) bool) {
	return func(yield func(string) bool) {
		for k := range m {
			if !yield(k) {
				return
			}
		}
	}
}

func copied(p api.Piece) api.Piece {
	q := api.Piece{Instrument: api.Instrument{Courses: append([]api.Course{}, p.Instrument.Courses...), Steps: append([]int{}, p.Instrument.Steps...)}}
	for _, ev := range p.Events {
		ev.Stops = append([]api.Stop{}, ev.Stops...)
		q.Events = append(q.Events, ev)
	}
	return q
}

// roomy copies a piece into lists that have room behind their ends, also the empty ones.
func roomy(p api.Piece) api.Piece {
	q := copied(p)
	q.Instrument.Courses = slices.Grow(q.Instrument.Courses, 3)
	q.Instrument.Steps = slices.Grow(q.Instrument.Steps, 3)
	q.Events = slices.Grow(q.Events, 3)
	for i := range q.Events {
		q.Events[i].Stops = slices.Grow(q.Events[i].Stops, 3)
	}
	return q
}

// whole shows a piece with the room behind the ends of its lists.
func whole(p api.Piece) string {
	t := shown(p) + fmt.Sprint(p.Instrument.Courses[:cap(p.Instrument.Courses)], p.Instrument.Steps[:cap(p.Instrument.Steps)])
	for _, ev := range p.Events[:cap(p.Events)] {
		t += fmt.Sprint(ev, ev.Stops[:cap(ev.Stops)])
	}
	return t
}

// scribble overwrites all memory of a result, and reports lists of it that share some.
func scribble(t *testing.T, call string, p api.Piece) {
	t.Helper()
	in := p.Instrument
	for i := range in.Courses[:cap(in.Courses)] {
		in.Courses[:cap(in.Courses)][i].Pitch += 1000
	}
	for i := range in.Steps[:cap(in.Steps)] {
		in.Steps[:cap(in.Steps)][i] += 1000
	}
	events := p.Events[:cap(p.Events)]
	for i, ev := range events {
		for j := range ev.Stops[:cap(ev.Stops)] {
			ev.Stops[:cap(ev.Stops)][j] = api.Stop{Course: 1000 + i, Fret: j}
		}
	}
	for i, ev := range events {
		for j, st := range ev.Stops[:cap(ev.Stops)] {
			if st != (api.Stop{Course: 1000 + i, Fret: j}) {
				t.Fatalf("%s: two lists of the result share memory", call)
			}
		}
	}
	for i := range events {
		events[i] = api.Event{Bar: true, Sign: api.Sign{Value: 1000}}
	}
}
