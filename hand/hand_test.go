package hand_test

import (
	"fmt"
	"math/rand/v2"
	"slices"
	"testing"

	"theorbo/api"
	"theorbo/hand"
	"theorbo/instrument"
	"theorbo/notation"
	"theorbo/piece"
	"theorbo/sound"
)

// P6.1: the standard hand.
func TestStandard(t *testing.T) {
	if got, want := fmt.Sprint(hand.Standard()), "{[0 1 2 3] [0 2 3 4] [true false false false] 12 7 2 3 4 2 1}"; got != want {
		t.Errorf("Standard = %s; it should be %s", got, want)
	}
	if e := hand.Check(hand.Standard()); e != api.OK {
		t.Errorf("Check of the standard hand: %d", e)
	}
}

// P6.1: each condition of a valid hand, at its ends.
func TestCheck(t *testing.T) {
	for _, c := range []struct {
		name   string
		valid  bool
		change func(h *api.Hand)
	}{
		{"itself", true, func(h *api.Hand) {}},
		{"one finger", true, func(h *api.Hand) { h.Low, h.High, h.Barre = h.Low[:1], h.High[:1], h.Barre[:1] }},
		{"no fingers", false, func(h *api.Hand) { h.Low, h.High, h.Barre = nil, nil, nil }},
		{"five fingers", false, func(h *api.Hand) {
			h.Low, h.High, h.Barre = append(h.Low, 4), append(h.High, 5), append(h.Barre, false)
		}},
		{"a Low less", false, func(h *api.Hand) { h.Low = h.Low[:3] }},
		{"a High less", false, func(h *api.Hand) { h.High = h.High[:3] }},
		{"a High more", false, func(h *api.Hand) { h.High = append(h.High, 8) }},
		{"a Barre less", false, func(h *api.Hand) { h.Barre = h.Barre[:3] }},
		{"a Barre more", false, func(h *api.Hand) { h.Barre = append(h.Barre, false) }},
		{"Low below 0", false, func(h *api.Hand) { h.Low[0] = -1 }},
		{"Low above High", false, func(h *api.Hand) { h.Low[0] = 1 }},
		{"the last Low above High", false, func(h *api.Hand) { h.Low[3] = 5 }},
		{"High 8", true, func(h *api.Hand) { h.High[3] = 8 }},
		{"Low and High 8", true, func(h *api.Hand) { h.Low[3], h.High[3] = 8, 8 }},
		{"High 9", false, func(h *api.Hand) { h.High[3] = 9 }},
		{"equal Low and High", true, func(h *api.Hand) { h.Low, h.High = numbers("1 1 1 1"), numbers("1 1 1 1") }},
		{"Low that decreases", false, func(h *api.Hand) { h.Low[3] = 1 }},
		{"High that decreases", false, func(h *api.Hand) { h.High[1] = 4 }},
		{"no Barre", true, func(h *api.Hand) { h.Barre[0] = false }},
		{"Top 0", false, func(h *api.Hand) { h.Top = 0 }},
		{"Top 1", true, func(h *api.Hand) { h.Top = 1 }},
		{"Top 18", true, func(h *api.Hand) { h.Top = 18 }},
		{"Top 19", false, func(h *api.Hand) { h.Top = 19 }},
		{"Jump -1", false, func(h *api.Hand) { h.Jump = -1 }},
		{"Jump 0", true, func(h *api.Hand) { h.Jump = 0 }},
		{"Jump 18", true, func(h *api.Hand) { h.Jump = 18 }},
		{"Jump 19", false, func(h *api.Hand) { h.Jump = 19 }},
	} {
		h := hand.Standard()
		c.change(&h)
		if e := hand.Check(h); e != api.OK && e != api.ErrHand || e == api.OK != c.valid {
			t.Errorf("Check of the standard hand with %s: %d", c.name, e)
		}
	}
}

// P6.1, R5: each weight, and any number everywhere.
func TestCheckNumbers(t *testing.T) {
	fields := func(h *api.Hand) []*int { return []*int{&h.Shift, &h.Lift, &h.Bar, &h.Stretch, &h.Slide} }
	for i := range 5 {
		for _, n := range slices.Concat(hostile, []int{-1, 0, 1000, 1001}) {
			h := hand.Standard()
			*fields(&h)[i] = n
			if e := hand.Check(h); e == api.OK != (n >= 0 && n <= 1000) {
				t.Errorf("Check with the weight %d, %d: %d", i, n, e)
			}
		}
	}
	for _, n := range hostile {
		h := hand.Standard()
		h.Top = n
		if e := hand.Check(h); e == api.OK != (n >= 1 && n <= 18) {
			t.Errorf("Check with Top %d: %d", n, e)
		}
		h.Top, h.Jump = 12, n
		if e := hand.Check(h); e == api.OK != (n >= 0 && n <= 18) {
			t.Errorf("Check with Jump %d: %d", n, e)
		}
		for _, m := range hostile {
			h = api.Hand{Low: []int{n}, High: []int{m}, Barre: []bool{true}, Top: 1}
			if e := hand.Check(h); e == api.OK != (0 <= n && n <= m && m <= 8) {
				t.Errorf("Check with the finger %d to %d: %d", n, m, e)
			}
		}
	}
}

// P6.1: each condition of a valid chord and of a valid sequence.
func TestCheckChords(t *testing.T) {
	for _, c := range []struct {
		chords string
		want   api.Errno
	}{
		{"", api.OK},
		{";;", api.OK},
		{"1.1 14.18", api.OK},
		{"0.1", api.ErrArg},
		{"15.1", api.ErrArg},
		{"1.0", api.ErrArg},
		{"1.19", api.ErrArg},
		{"1.-1", api.ErrArg},
		{"2.1 2.2", api.ErrArg},
		{"2.1 1.1", api.ErrArg},
		{"1.1; 2.1 1.1", api.ErrArg},
		{"1.1 2.2 h1 h2", api.OK}, // the first chord
		{"1.1 2.2 h2 h1", api.ErrArg},
		{"1.1 2.2 h2 h2", api.ErrArg},
		{"1.1 2.2 h3", api.ErrArg},
		{"1.1 2.2 h0", api.ErrArg},
		{"h1", api.ErrArg},
		{"1.1 o2 o14", api.OK},
		{"o1", api.OK},
		{"o0", api.ErrArg},
		{"o-1", api.ErrArg},
		{"o15", api.ErrArg},
		{"o2 o2", api.ErrArg},
		{"o3 o2", api.ErrArg},
		{"1.1 2.2 o2", api.ErrArg},
		{"1.1 2.2 o1 o3", api.ErrArg},
		{"1.1; 1.1 h1", api.OK},
		{"1.1 2.4; 2.4 3.1 h2; 2.4 h2", api.OK},
		{"1.1; 1.2 h1", api.ErrArg},
		{"1.1; 2.1 h2", api.ErrArg},
		{"o1; 1.1 h1", api.ErrArg},
		{"1.1; ; 1.1 h1", api.ErrArg},
		{"1.1 2.2; 1.1 2.3 h1 h2", api.ErrArg},
	} {
		if e := hand.CheckChords(chords(c.chords)); e != c.want {
			t.Errorf("CheckChords of %q: %d", c.chords, e)
		}
	}
}

// P6.1, R5: the number of chords, and any number everywhere.
func TestCheckChordsNumbers(t *testing.T) {
	wrong := slices.Repeat(chords("1.0"), 401)
	for count, want := range map[int]api.Errno{400: api.ErrArg, 401: api.ErrMany} {
		if e := hand.CheckChords(wrong[:count]); e != want {
			t.Errorf("CheckChords of %d chords that are not valid: %d", count, e)
		}
		if e := hand.CheckChords(make([]api.Chord, count)); e == api.OK != (count == 400) {
			t.Errorf("CheckChords of %d chords: %d", count, e)
		}
	}
	for _, n := range hostile {
		for name, c := range map[string]api.Chord{
			"course": {Down: []api.Place{{Course: n, Fret: 1}}}, "fret": {Down: []api.Place{{Course: 1, Fret: n}}},
			"held": {Down: chord("1.1 2.2 5.5").Down, Held: []int{n}}, "open": {Down: chord("1.1").Down, Open: []int{n}},
		} {
			valid := map[string]bool{"course": n >= 1 && n <= 14, "fret": n >= 1 && n <= 18, "held": n == 1 || n == 2 || n == 5, "open": n >= 2 && n <= 14}[name]
			if e := hand.CheckChords([]api.Chord{c}); e == api.OK != valid {
				t.Errorf("CheckChords with %s %d: %d", name, n, e)
			}
		}
	}
}

func read(t *testing.T, text string) api.Piece {
	t.Helper()
	_, p, line, e := notation.Read(text)
	if e != api.OK {
		t.Fatalf("line %d: %d", line, e)
	}
	return p
}

// heading stands before the lines of a French tablature for lute6.
const heading = "tablature french\nG4/8 D4/8 A3/8 F3/8+ C3/8+ G2/8+ : 1 2 3 4 5 6 7 8\n"

// P6.2: what is down, what is held and what rings, in chords, ties and rests.
func TestChords(t *testing.T) {
	for _, c := range []struct{ text, want string }{
		{"", "[]"},
		{"C b - - - - -\nC d - - - - -\n", "[{[{1 1}] [] []} {[{1 3}] [] []}]"},
		{"C %\n", "[{[] [] []}]"},
		// A finger stays for its hold and for ties; an open string rings on; a rest silences all.
		{"C c_1 - - - - a\n- - d - - - -\n- ~\n- %\n", "[{[{1 2}] [] [6]} {[{1 2} {2 3}] [1] [6]} {[{1 2} {2 3}] [1 2] [6]} {[] [] []}]"},
		// A place that is played again is not held, nor is one that is played after the finger was lifted.
		{"C c - - - - -\n- c - - - - -\n", "[{[{1 2}] [] []} {[{1 2}] [] []}]"},
		{"C c - b_2 - - -\n- - a - - - -\n- b - - - - a\n", "[{[{1 2} {3 1}] [] []} {[{3 1}] [3] [2]} {[{1 1} {3 1}] [3] [2 6]}]"},
		// An open string that is stopped does not ring on, and one that follows a finger is open.
		{"C a - - - - -\n- b - - - - -\n- a - - - - -\n", "[{[] [] [1]} {[{1 1}] [] []} {[] [] [1]}]"},
	} {
		l, e := hand.Chords(read(t, heading+c.text))
		wants(t, "Chords of "+c.text, fmt.Sprint(l), e, c.want)
	}
}

// anyPiece returns a valid piece with holds, ties and rests.
func anyPiece(r *rand.Rand) api.Piece {
	names := instrument.Names()
	in, _ := instrument.Standard(names[r.IntN(len(names))])
	p := api.Piece{Instrument: in}
	for i := range r.IntN(25) {
		ev := api.Event{Sign: api.Sign{Value: 1 + r.IntN(7)}, Tie: i > 0 && r.IntN(4) == 0}
		for course, c := range in.Courses {
			if !ev.Tie && r.IntN(4) == 0 {
				ev.Stops = append(ev.Stops, api.Stop{Course: course + 1, Fret: r.IntN(c.Frets + 1)})
			}
		}
		p.Events = append(p.Events, ev)
	}
	for i, ev := range p.Events {
		for j, st := range ev.Stops {
			if st.Fret > 0 {
				ev.Stops[j].Hold = r.IntN(piece.Longest(p, i, st.Course) + 1)
			}
		}
	}
	return p
}

// P6.2: one chord for each event, by what sound.Courses returns; together a valid sequence.
func TestChordsOfPieces(t *testing.T) {
	r := rand.New(rand.NewPCG(3, 4))
	held, open := 0, 0
	for range 500 {
		p := anyPiece(r)
		rows, e := sound.Courses(p)
		if e != api.OK {
			t.Fatalf("Courses of %v: %d", p, e)
		}
		l, e := hand.Chords(p)
		if e != api.OK || len(l) != len(p.Events) || hand.CheckChords(l) != api.OK {
			t.Fatalf("Chords of %v = %v, %d", p, l, e)
		}
		for i, c := range l {
			down, rings := map[int]int{}, map[int]bool{}
			for _, pl := range c.Down {
				down[pl.Course] = pl.Fret
			}
			for _, course := range c.Open {
				rings[course] = true
			}
			for j, fret := range rows[i] {
				if down[j+1] != max(fret, 0) || rings[j+1] != (fret == 0) {
					t.Fatalf("Chords of %v = %v, but of the event %d the courses are %v", p, l, i, rows[i])
				}
				played := slices.ContainsFunc(p.Events[i].Stops, func(st api.Stop) bool { return st.Course == j+1 })
				if slices.Contains(c.Held, j+1) != (fret > 0 && !played) {
					t.Fatalf("Chords of %v = %v: held at %d", p, l, i)
				}
			}
			held, open = held+len(c.Held), open+len(c.Open)
		}
	}
	if held < 500 || open < 500 {
		t.Errorf("only %d held and %d open courses", held, open)
	}
}

// P6.2: the errors are those of sound.Courses.
func TestChordsErrors(t *testing.T) {
	p := read(t, heading+"C c - - - - -\n- ~\n")
	for name, change := range map[string]func(p *api.Piece){
		"no courses":   func(p *api.Piece) { p.Instrument.Courses = nil },
		"no sign":      func(p *api.Piece) { p.Events[0].Sign = api.Sign{} },
		"a first tie":  func(p *api.Piece) { p.Events[0].Stops, p.Events[0].Tie = nil, true },
		"a course 7":   func(p *api.Piece) { p.Events[0].Stops[0].Course = 7 },
		"a fret 9":     func(p *api.Piece) { p.Events[0].Stops[0].Fret = 9 },
		"a long hold":  func(p *api.Piece) { p.Events[0].Stops[0].Hold = 2 },
		"a mark":       func(p *api.Piece) { p.Events[0].Stops[0].Right = 4 },
		"many events":  func(p *api.Piece) { p.Events = slices.Repeat(p.Events[:1], 401) },
		"not in order": func(p *api.Piece) { p.Events[0].Stops = slices.Repeat(p.Events[0].Stops, 2) },
	} {
		q := api.Piece{Instrument: p.Instrument, Events: slices.Clone(p.Events)}
		q.Events[0].Stops = slices.Clone(q.Events[0].Stops)
		change(&q)
		_, want := sound.Courses(q)
		if l, e := hand.Chords(q); e != want || want == api.OK || len(l) > 0 {
			t.Errorf("Chords of a piece with %s = %v, %d; the error should be %d", name, l, e, want)
		}
	}
}
