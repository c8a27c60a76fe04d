package leaf_test

import (
	"fmt"
	"math"
	"math/rand/v2"
	"slices"
	"strconv"
	"strings"
	"testing"

	"theorbo/api"
	"theorbo/hand"
	"theorbo/instrument"
	"theorbo/leaf"
	"theorbo/piece"
)

// hostile are arguments that no range allows, and the ends of common ranges.
var hostile = []int{math.MinInt, math.MinInt + 1, -1 << 62, -257, -256, -2, -1, 0, 1, 2, 5, 7, 8, 14, 18, 19, 64, 65, 127, 128, 255, 256, 257, 400, 401, 1000, 1001, 4608, 4609, 65535, 65536, 1 << 62, math.MaxInt - 1, math.MaxInt}

// pair are the courses of the document's examples.
const pair = "G4/5 D4/5 : 1 2 3 4 5"

func strung(text string) api.Instrument {
	in, e := instrument.Parse(text)
	if e != api.OK {
		panic(text)
	}
	return in
}

func standard(name string) api.Instrument {
	in, e := instrument.Standard(name)
	if e != api.OK {
		panic(name)
	}
	return in
}

func number(t string) int {
	if t == "-" {
		return -1
	}
	n, err := strconv.Atoi(t)
	if err != nil {
		panic(err)
	}
	return n
}

// signOf reads a sign: `4`, `4.`, `4t`.
func signOf(t string) api.Sign {
	t, three := strings.CutSuffix(t, "t")
	t, dot := strings.CutSuffix(t, ".")
	return api.Sign{Value: number(t), Dot: dot, Three: three}
}

// columnOf reads a column as the document writes it, whether it is valid or not.
func columnOf(t string) api.Column {
	words := strings.Fields(t)
	c := api.Column{Bar: strings.Contains(words[0], "|"), Tie: strings.Contains(words[0], "~")}
	for w := range strings.SplitSeq(words[1], "/") {
		c.Signs = append(c.Signs, signOf(w))
	}
	for _, cell := range words[2:] {
		var numbers []int
		for w := range strings.SplitSeq(cell, "/") {
			numbers = append(numbers, number(w))
		}
		c.Cells = append(c.Cells, numbers)
	}
	return c
}

// made makes a leaf of columns that are separated by semicolons; the empty text has none.
func made(in, columns string) api.Leaf {
	f := api.Leaf{Instrument: strung(in)}
	if columns != "" {
		for t := range strings.SplitSeq(columns, ";") {
			f.Columns = append(f.Columns, columnOf(t))
		}
	}
	return f
}

// example is F of the document.
func example() api.Leaf {
	return made(pair, ". 3 0 -/3; | 4 1/2 -")
}

// pieceOf makes a piece of events that are separated by semicolons: first `|` or `.`, then a sign or `0`, then `~`, or stops `course.fret`, which may have Right, Grace and Hold behind them: `1.2:1:4:2`.
func pieceOf(in, events string) api.Piece {
	p := api.Piece{Instrument: strung(in)}
	if events == "" {
		return p
	}
	for t := range strings.SplitSeq(events, ";") {
		words := strings.Fields(t)
		ev := api.Event{Bar: words[0] == "|", Sign: signOf(words[1])}
		for _, w := range words[2:] {
			if w == "~" {
				ev.Tie = true
				continue
			}
			place, marks, _ := strings.Cut(w, ":")
			course, fret, _ := strings.Cut(place, ".")
			st := api.Stop{Course: number(course), Fret: number(fret)}
			if marks != "" {
				m := strings.Split(marks, ":")
				st.Right, st.Grace, st.Hold = number(m[0]), number(m[1]), number(m[2])
			}
			ev.Stops = append(ev.Stops, st)
		}
		p.Events = append(p.Events, ev)
	}
	return p
}

func shownSign(s api.Sign) string {
	t := fmt.Sprint(s.Value)
	if s.Dot {
		t += "."
	}
	if s.Three {
		t += "t"
	}
	return t
}

// shownColumn is the inverse of columnOf.
func shownColumn(c api.Column) string {
	word := map[[2]bool]string{{}: ".", {true, false}: "|", {false, true}: "~", {true, true}: "|~"}[[2]bool{c.Bar, c.Tie}]
	var signs []string
	for _, s := range c.Signs {
		signs = append(signs, shownSign(s))
	}
	words := []string{word, strings.Join(signs, "/")}
	for _, cell := range c.Cells {
		var numbers []string
		for _, n := range cell {
			numbers = append(numbers, strings.ReplaceAll(fmt.Sprint(n), "-1", "-"))
		}
		words = append(words, strings.Join(numbers, "/"))
	}
	return strings.Join(words, " ")
}

// shown is the inverse of made, but for the instrument.
func shown(f api.Leaf) string {
	var columns []string
	for _, c := range f.Columns {
		columns = append(columns, shownColumn(c))
	}
	return strings.Join(columns, "; ")
}

// shownPieces writes pieces by their numbers, as the document does.
func shownPieces(l []api.Piece) string {
	var all []string
	for _, p := range l {
		var events []string
		for _, ev := range p.Events {
			numbers := slices.Repeat([]string{"-"}, len(p.Instrument.Courses))
			for _, st := range ev.Stops {
				numbers[st.Course-1] = fmt.Sprint(st.Fret)
			}
			events = append(events, strings.Join(numbers, " "))
		}
		all = append(all, strings.Join(events, ", "))
	}
	return strings.Join(all, "; ")
}

func sameLeaf(a, b api.Leaf) bool {
	return instrument.Same(a.Instrument, b.Instrument) && slices.EqualFunc(a.Columns, b.Columns, func(c, d api.Column) bool {
		return c.Bar == d.Bar && c.Tie == d.Tie && slices.Equal(c.Signs, d.Signs) && slices.EqualFunc(c.Cells, d.Cells, slices.Equal)
	})
}

func samePieces(a, b []api.Piece) bool {
	return slices.EqualFunc(a, b, piece.Same)
}

// isNothing reports whether a leaf is the zero value.
func isNothing(f api.Leaf) bool {
	return len(f.Columns) == 0 && len(f.Instrument.Courses) == 0 && len(f.Instrument.Steps) == 0
}

// noPiece reports whether a piece is the zero value.
func noPiece(p api.Piece) bool {
	return piece.Same(p, api.Piece{})
}

// plainRules are R of the document.
func plainRules() api.Rules {
	return api.Rules{Hand: hand.Standard()}
}

// concords are C of the document.
func concords() api.Rules {
	return api.Rules{Hand: hand.Standard(), Concord: true}
}

// measured are rules with a measure.
func measured(ticks int) api.Rules {
	return api.Rules{Hand: hand.Standard(), Measure: ticks}
}

// brokenLeaf is a leaf that is not valid, with the error of Check.
type brokenLeaf struct {
	name string
	f    api.Leaf
	e    api.Errno
}

func brokenLeaves() []brokenLeaf {
	none, high, many := example(), example(), example()
	none.Instrument.Courses = nil
	high.Instrument.Courses[1].Pitch = 128
	many.Columns = slices.Repeat(many.Columns[:1], 401)
	return []brokenLeaf{
		{"no courses", none, api.ErrInstrument},
		{"a pitch", high, api.ErrPitch},
		{"401 columns", many, api.ErrMany},
		{"a tie first", made(pair, "~ 3 - -; . 3 0 0"), api.ErrLeaf},
		{"a missing cell", made(pair, ". 3 0 -; | 4 1"), api.ErrLeaf},
	}
}

// brokenPiece is a piece that is not valid, with the error of piece.Check.
type brokenPiece struct {
	p api.Piece
	e api.Errno
}

func brokenPieces() []brokenPiece {
	var l []brokenPiece
	add := func(e api.Errno, change func(p *api.Piece)) {
		p := pieceOf(pair, ". 3 1.0 2.3; | 4 1.2")
		change(&p)
		if piece.Check(p) != e {
			panic(fmt.Sprint("not the error ", e))
		}
		l = append(l, brokenPiece{p, e})
	}
	add(api.ErrInstrument, func(p *api.Piece) { p.Instrument.Courses = nil })
	add(api.ErrPitch, func(p *api.Piece) { p.Instrument.Courses[1].Pitch = 128 })
	add(api.ErrMany, func(p *api.Piece) { p.Events = slices.Repeat(p.Events[:1], 401) })
	add(api.ErrSign, func(p *api.Piece) { p.Events[0].Sign = api.Sign{} })
	add(api.ErrTie, func(p *api.Piece) { p.Events[0].Tie = true })
	add(api.ErrCourse, func(p *api.Piece) { p.Events[1].Stops[0].Course = 3 })
	add(api.ErrFret, func(p *api.Piece) { p.Events[1].Stops[0].Fret = 6 })
	add(api.ErrOrder, func(p *api.Piece) { p.Events[0].Stops[1].Course = 1 })
	add(api.ErrMark, func(p *api.Piece) { p.Events[0].Stops[1].Right = 4 })
	add(api.ErrHold, func(p *api.Piece) { p.Events[0].Stops[1].Hold = 2 })
	return l
}

// badHand is a hand that is not valid.
func badHand() api.Hand {
	h := hand.Standard()
	h.Slide = -1
	return h
}

// anyHand returns a valid hand that can do little, but not always.
func anyHand(r *rand.Rand) api.Hand {
	if r.IntN(3) == 0 {
		return hand.Standard()
	}
	h := api.Hand{Top: 1 + r.IntN(5), Jump: r.IntN(3), Shift: r.IntN(3), Bar: r.IntN(3)}
	low, high := 0, r.IntN(2)
	for range 1 + r.IntN(3) {
		h.Low, h.High, h.Barre = append(h.Low, low), append(h.High, high), append(h.Barre, r.IntN(3) == 0)
		low, high = low+r.IntN(2), high+1+r.IntN(2)
	}
	if hand.Check(h) != api.OK {
		panic("no valid hand")
	}
	return h
}

// anyInstrument returns a valid instrument with few courses, some of which may be diapasons.
func anyInstrument(r *rand.Rand) api.Instrument {
	in := api.Instrument{Steps: []int{1, 2, 3, 5, 6}}
	if r.IntN(4) == 0 {
		in.Steps = in.Steps[:r.IntN(4)]
	}
	for range 1 + r.IntN(4) {
		c := api.Course{Pitch: 40 + r.IntN(30), Frets: len(in.Steps), Octave: r.IntN(3) == 0}
		if r.IntN(4) == 0 {
			c.Frets = r.IntN(len(in.Steps) + 1)
		}
		in.Courses = append(in.Courses, c)
	}
	return in
}

// anySigns returns some signs in order.
func anySigns(r *rand.Rand, most int) []api.Sign {
	all := []string{"2", "3", "3.", "4", "4t", "4.", "5", "5t"}
	if r.IntN(3) == 0 {
		all = []string{"1", "1t", "1.", "2t", "2.", "3t", "4t", "5.", "6", "6t", "6.", "7", "7t", "7."}
	}
	var signs []api.Sign
	for range 1 + r.IntN(most) {
		s := signOf(all[r.IntN(len(all))])
		if !slices.Contains(signs, s) {
			signs = append(signs, s)
		}
	}
	slices.SortFunc(signs, compareSigns)
	return signs
}

// compareSigns orders signs as the document does.
func compareSigns(a, b api.Sign) int {
	rank := func(s api.Sign) int {
		n := 4 * s.Value
		if s.Dot {
			n += 2
		}
		if s.Three {
			n++
		}
		return n
	}
	return rank(a) - rank(b)
}

// anyCell returns some numbers in order; greatest is the greatest one possible.
func anyCell(r *rand.Rand, greatest, most int) []int {
	var cell []int
	for range 1 + r.IntN(most) {
		n := r.IntN(greatest+2) - 1
		if r.IntN(3) == 0 {
			n = min(r.IntN(2)-1, greatest)
		}
		if !slices.Contains(cell, n) {
			cell = append(cell, n)
		}
	}
	slices.Sort(cell)
	return cell
}

// anyColumn returns a valid column.
func anyColumn(r *rand.Rand, in api.Instrument, tie bool, most int) api.Column {
	c := api.Column{Bar: r.IntN(3) == 0, Tie: tie, Signs: anySigns(r, most)}
	for _, course := range in.Courses {
		greatest := course.Frets
		if tie {
			greatest = -1
		}
		c.Cells = append(c.Cells, anyCell(r, greatest, most))
	}
	return c
}

// anyLeaf returns a valid leaf; the less of most there is, the fewer readings it has.
func anyLeaf(r *rand.Rand, columns, most int) api.Leaf {
	f := api.Leaf{Instrument: anyInstrument(r)}
	for number := range columns {
		c := anyColumn(r, f.Instrument, number > 0 && r.IntN(5) == 0, 1+r.IntN(most))
		f.Columns = append(f.Columns, c)
	}
	if e := leaf.Check(f); e != api.OK {
		panic(fmt.Sprint("no valid leaf: ", shown(f)))
	}
	return f
}

// anyRules returns valid rules.
func anyRules(r *rand.Rand) api.Rules {
	rules := api.Rules{Hand: anyHand(r), Concord: r.IntN(4) == 0}
	if r.IntN(2) == 0 {
		rules.Measure = 24 * (1 + r.IntN(16))
	}
	return rules
}

// anyPiece returns one of the completions of a leaf, or something like it, written in one of several ways.
func anyPiece(r *rand.Rand, f api.Leaf) api.Piece {
	p := api.Piece{Instrument: f.Instrument}
	for _, c := range f.Columns {
		ev := api.Event{Bar: c.Bar, Tie: c.Tie, Sign: c.Signs[r.IntN(len(c.Signs))]}
		if r.IntN(20) == 0 {
			ev.Sign = anySigns(r, 1)[0]
		}
		for i, cell := range c.Cells {
			fret := cell[r.IntN(len(cell))]
			if r.IntN(20) == 0 && !c.Tie {
				fret = r.IntN(f.Instrument.Courses[i].Frets + 1)
			}
			if fret >= 0 {
				ev.Stops = append(ev.Stops, api.Stop{Course: i + 1, Fret: fret, Right: r.IntN(4), Grace: r.IntN(5)})
			}
		}
		p.Events = append(p.Events, ev)
	}
	for i, ev := range p.Events {
		for j, st := range ev.Stops {
			if st.Fret > 0 {
				ev.Stops[j].Hold = r.IntN(piece.Longest(p, i, st.Course) + 1)
			}
		}
	}
	if r.IntN(2) == 0 {
		p, _ = piece.Terse(p)
	}
	if e := piece.Check(p); e != api.OK {
		panic(fmt.Sprint("no valid piece: ", p))
	}
	return p
}

// wants compares what a call has returned without an error with the right result.
func wants[T comparable](t *testing.T, call string, got T, e api.Errno, want T) {
	t.Helper()
	if e != api.OK || got != want {
		t.Errorf("%s = %v, %d; it should be %v", call, got, e, want)
	}
}

func second[T any](_ T, e api.Errno) api.Errno { return e }

func third[T, U any](_ T, _ U, e api.Errno) api.Errno { return e }
