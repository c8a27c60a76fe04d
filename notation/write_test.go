package notation_test

import (
	"fmt"
	"slices"
	"strings"
	"testing"

	"theorbo/api"
	"theorbo/instrument"
	"theorbo/notation"
)

// wantLacks are the lacks of an event of a valid piece.
func wantLacks(sys api.System, p api.Piece, number int) []api.Lack {
	ev := p.Events[number]
	var l []api.Lack
	switch {
	case sys == api.German && ev.Sign.Three:
		l = append(l, api.Lack{Event: number, What: api.LackThree})
	case sys == api.German && ev.Sign.Value == 0:
		l = append(l, api.Lack{Event: number, What: api.LackSign})
	}
	switch {
	case sys == api.German && ev.Tie:
		l = append(l, api.Lack{Event: number, What: api.LackTie})
	case sys == api.Spanish && isRest(ev):
		l = append(l, api.Lack{Event: number, What: api.LackRest})
	}
	for _, st := range ev.Stops {
		for _, what := range lackOf(sys, st, longest(p, number, st.Course)) {
			l = append(l, api.Lack{Event: number, Course: st.Course, What: what})
		}
	}
	return l
}

// wantColumn is the column of an event of which the system lacks nothing.
func wantColumn(sys api.System, p api.Piece, number int) string {
	ev := p.Events[number]
	t := ""
	if ev.Bar {
		t = "| "
	}
	for word, s := range timeWords() {
		if s == ev.Sign {
			t += word
		}
	}
	switch {
	case ev.Tie:
		return t + " ~"
	case isRest(ev):
		return t + " %"
	}
	cells := map[int]string{}
	for _, st := range ev.Stops {
		cells[st.Course] = " " + cellOf(sys, st, longest(p, number, st.Course))
	}
	order := []int{1, 2, 3, 4, 5, 6, 7, 8, 9, 10, 11, 12, 13, 14}
	if sys == api.Italian {
		slices.Reverse(order)
	}
	for _, course := range order {
		cell := cells[course]
		if cell == "" && sys != api.German && course <= min(6, len(p.Instrument.Courses)) {
			cell = " -"
		}
		t += cell
	}
	return t
}

// checkPiece compares Lacks, Can, Column and Write with what is wanted of a valid piece.
func checkPiece(t *testing.T, sys api.System, p api.Piece) {
	t.Helper()
	kept := shown(p)
	in, _ := instrument.Format(p.Instrument)
	text := "tablature " + systemNames[sys] + "\n" + in + "\n"
	var lacks []api.Lack
	for i := range p.Events {
		l := wantLacks(sys, p, i)
		lacks = append(lacks, l...)
		column, fault := "", api.ErrCannot
		if len(l) == 0 {
			column, fault = wantColumn(sys, p, i), api.OK
		}
		if s, e := notation.Column(sys, p, i); s != column || e != fault {
			t.Fatalf("Column(%d, %s, %d) = %q, %d, want %q, %d", sys, shown(p), i, s, e, column, fault)
		}
		text += column + "\n"
	}
	if l, e := notation.Lacks(sys, p); !slices.Equal(l, lacks) || e != api.OK {
		t.Fatalf("Lacks(%d, %s) = %v, %d, want %v", sys, shown(p), l, e, lacks)
	}
	fault := api.OK
	if len(lacks) > 0 {
		text, fault = "", api.ErrCannot
	}
	if s, e := notation.Write(sys, p); s != text || e != fault {
		t.Fatalf("Write(%d, %s) = %q, %d, want %q, %d", sys, shown(p), s, e, text, fault)
	}
	if can := notation.Can(sys, p); can != (len(lacks) == 0) {
		t.Fatalf("Can(%d, %s) = %v", sys, shown(p), can)
	}
	if shown(p) != kept {
		t.Fatalf("the piece has changed to %s", shown(p))
	}
}

// P3.8 to P3.11: pieces of all kinds, and such as a system can say.
func TestPieces(t *testing.T) {
	for _, sys := range systems {
		for _, p := range pieces(t, 0) {
			checkPiece(t, sys, p)
		}
		said := 0
		for _, p := range pieces(t, sys) {
			checkPiece(t, sys, p)
			if notation.Can(sys, p) {
				said++
			}
		}
		if said < 250 {
			t.Errorf("system %d can say only %d pieces", sys, said)
		}
	}
}

// shownLacks writes lacks as event, course and what, each with a semicolon.
func shownLacks(lacks []api.Lack) string {
	names := []string{"", "note", "right", "grace", "hold", "three", "sign", "tie", "rest"}
	t := ""
	for _, l := range lacks {
		t += fmt.Sprintf("%d %d %s; ", l.Event, l.Course, names[l.What])
	}
	return strings.TrimSuffix(t, " ")
}

// P3.8
func TestLacks(t *testing.T) {
	lacks := func(p api.Piece, wants map[api.System]string) {
		t.Helper()
		for sys, want := range wants {
			if l, e := notation.Lacks(sys, p); shownLacks(l) != want || e != api.OK {
				t.Errorf("Lacks(%d) = %s, %d, want %s", sys, shownLacks(l), e, want)
			}
		}
	}
	lacks(made("lute7",
		"4t 1/2g1h2 3/0r1 7/0",
		"- 2/1r2g4 4/3g3h1",
		"- ~",
		"|5. %",
		"- 5/5r3 6/2r1g2 7/2r1g2",
	), map[api.System]string{
		api.French:  "",
		api.Italian: "1 2 right; 1 2 grace; 4 5 right; 4 6 grace; 4 7 note;",
		api.Spanish: "0 1 grace; 0 1 hold; 0 3 right; 0 7 note; 1 2 right; 1 2 grace; 1 4 grace; 1 4 hold; 3 0 rest; 4 5 right; 4 6 right; 4 6 grace; 4 7 note;",
		api.German:  "0 0 three; 0 1 grace; 0 7 note; 1 0 sign; 1 2 right; 1 2 grace; 2 0 sign; 2 0 tie; 4 0 sign; 4 5 right; 4 6 grace; 4 7 note;",
	})
	lacks(made("lute7", "4 1/2 3/0r1 7/0"), map[api.System]string{
		api.French: "", api.Italian: "", api.Spanish: "0 3 right; 0 7 note;", api.German: "0 7 note;",
	})
	lacks(made("lute6", "4t %", "4t 1/1", "4t ~"), map[api.System]string{
		api.French: "", api.Italian: "", api.Spanish: "0 0 rest;", api.German: "0 0 three; 1 0 three; 2 0 three; 2 0 tie;",
	})
	lacks(api.Piece{Instrument: wide(), Events: made("theorbo14", "4 6/0 7/0 11/0").Events}, map[api.System]string{
		api.French: "", api.Italian: "", api.Spanish: "0 7 note; 0 11 note;", api.German: "0 7 note; 0 11 note;",
	})
	high := api.Piece{Instrument: wide(), Events: []api.Event{{Sign: api.Sign{Value: 1}, Stops: []api.Stop{
		{Course: 1, Fret: 10}, {Course: 2, Fret: 11}, {Course: 6, Fret: 18}, {Course: 10, Fret: 18}, {Course: 11, Fret: 1}, {Course: 14, Fret: 18, Right: 3, Grace: 2},
	}}}}
	lacks(high, map[api.System]string{
		api.French:  "0 11 note; 0 14 note;",
		api.Italian: "0 2 note; 0 6 note; 0 10 note; 0 11 note; 0 14 note;",
		api.Spanish: "0 2 note; 0 6 note; 0 10 note; 0 11 note; 0 14 note;",
		api.German:  "0 2 note; 0 6 note; 0 10 note; 0 11 note; 0 14 note;",
	})
}

// P3.8: a hold is sayable by a star only if it is the longest one.
func TestLacksOfHolds(t *testing.T) {
	for hold := 1; hold <= 15; hold++ {
		for most := hold; most <= 15; most++ {
			p := made("lute6", "4 1/2 3/4")
			p.Events[0].Stops[1].Hold = hold
			for range most {
				p.Events = append(p.Events, made("lute6", "4 1/0").Events...)
			}
			p.Events = append(p.Events, made("lute6", "4 3/0").Events...)
			for _, sys := range systems {
				var want []api.Lack
				if sys == api.Spanish || sys != api.French && hold < most {
					want = []api.Lack{{Course: 3, What: api.LackHold}}
				}
				if l, e := notation.Lacks(sys, p); !slices.Equal(l, want) || e != api.OK {
					t.Fatalf("Lacks(%d) of a hold of %d, of %d = %v, %d", sys, hold, most, l, e)
				}
			}
		}
	}
}

// P3.8, P3.9, P3.11: the errors and their order.
func TestLacksErrors(t *testing.T) {
	refused := func(what string, sys api.System, p api.Piece, want api.Errno) {
		t.Helper()
		if l, e := notation.Lacks(sys, p); len(l) != 0 || e != want {
			t.Errorf("Lacks(%d, %s) = %v, %d, want %d", sys, what, l, e, want)
		}
		if s, e := notation.Write(sys, p); s != "" || e != want {
			t.Errorf("Write(%d, %s) = %q, %d, want %d", sys, what, s, e, want)
		}
		if notation.Can(sys, p) {
			t.Errorf("Can(%d, %s)", sys, what)
		}
	}
	for name, b := range broken() {
		for _, sys := range systems {
			refused(name, sys, b.p, b.e)
		}
		for _, sys := range noSystems() {
			refused(name, sys, b.p, api.ErrSystem)
		}
	}
	for _, sys := range noSystems() {
		refused("a valid piece", sys, made("lute6", "4 1/0"), api.ErrSystem)
		refused("an empty piece", sys, made("lute6"), api.ErrSystem)
	}
}

// P3.9
func TestCan(t *testing.T) {
	for _, c := range []struct {
		events string
		want   string // the numbers of the systems
	}{
		{"4 1/2", "1234"},
		{"|4. 1/0 6/8", "1234"},
		{"4t 1/2", "123"},
		{"4 1/2; - 1/2", "123"},
		{"4 1/2; 4 ~", "123"},
		{"4 %", "124"},
		{"4 1/2r1", "124"},
		{"4 1/2g3", "124"},
		{"4 1/2r2", "1"},
		{"4 1/2g2", "1"},
		{"4 1/2g1", "12"},
		{"4 1/2h1; 4 2/0", "124"},
		{"4 1/2h1; 4 2/0; 4 2/0", "1"},
		{"4 7/0", "12"},
		{"4 7/1", "1"},
	} {
		p := made("lute7", strings.Split(c.events, ";")...)
		can := ""
		for _, sys := range systems {
			if notation.Can(sys, p) {
				can += string(rune('0' + sys))
			}
		}
		if can != c.want {
			t.Errorf("%s can be said by %s, want %s", c.events, can, c.want)
		}
	}
}

// P3.10
func TestColumn(t *testing.T) {
	for _, c := range []struct {
		sys          api.System
		name, events string
		want         string
		e            api.Errno
	}{
		{api.French, "lute7", "4 1/2 3/0r1 7/0", "C c - a. - - - a", api.OK},
		{api.Italian, "lute7", "4 1/2 3/0r1 7/0", "C 7 - - - 0. - 2", api.OK},
		{api.Spanish, "lute7", "4 1/2 3/0r1 7/0", "", api.ErrCannot},
		{api.Spanish, "lute7", "4 1/2 3/0", "C 2 - 0 - - -", api.OK},
		{api.German, "lute7", "4 1/2 3/0r1 7/0", "", api.ErrCannot},
		{api.German, "lute7", "4 1/2 3/0r1", "C k 3.", api.OK},
		{api.French, "guitar4", "|1. 4/8", "| B. - - - i", api.OK},
		{api.Italian, "guitar4", "|1. 4/8", "| B. 8 - - -", api.OK},
		{api.Spanish, "guitar4", "|1. 4/8", "| B. - - - 8", api.OK},
		{api.German, "guitar4", "|1. 4/8", "| B. mm", api.OK},
		{api.French, "theorbo14", "7t 7/0 8/0 10/0 11/0 14/0", "D3 - - - - - - a /a ///a 4 7", api.OK},
		{api.Italian, "theorbo14", "7t 7/0 8/0 10/0 11/0 14/0", "D3 14 11 x 8 7 - - - - - -", api.OK},
		{api.Italian, "theorbo14", "5 1/1 6/8 13/0", "Q 13 8 - - - - 1", api.OK},
		{api.French, "lute6", "2t %", "S3 %", api.OK},
		{api.Italian, "lute6", "|2 %", "| S %", api.OK},
		{api.German, "lute6", "|3. %", "| M. %", api.OK},
		{api.Spanish, "lute6", "2 %", "", api.ErrCannot},
		{api.German, "lute6", "2t %", "", api.ErrCannot},
	} {
		if s, e := notation.Column(c.sys, made(c.name, c.events), 0); s != c.want || e != c.e {
			t.Errorf("Column(%d, %s, %s) = %q, %d, want %q, %d", c.sys, c.name, c.events, s, e, c.want, c.e)
		}
	}
	p := made("lute6", "4 1/2h3", "- ~", "|- 2/1h1", "6 ~", "- %", "7 %")
	for sys, want := range map[api.System][]string{
		api.French:  {"C c_3 - - - - -", "- ~", "| - - b_1 - - - -", "X ~", "- %", "D %"},
		api.Italian: {"C - - - - - 2*", "- ~", "| - - - - - 1* -", "X ~", "- %", "D %"},
		api.Spanish: {"", "- ~", "", "X ~", "", ""},
		api.German:  {"C k*", "", "", "", "", "D %"},
	} {
		for i, column := range want {
			fault := api.OK
			if column == "" {
				fault = api.ErrCannot
			}
			if s, e := notation.Column(sys, p, i); s != column || e != fault {
				t.Errorf("Column(%d, %d) = %q, %d, want %q", sys, i, s, e, column)
			}
		}
	}
}

// P3.10: the errors and their order.
func TestColumnErrors(t *testing.T) {
	for _, event := range hostile {
		for name, b := range broken() {
			for _, sys := range systems {
				if s, e := notation.Column(sys, b.p, event); s != "" || e != b.e {
					t.Errorf("Column(%d, %s, %d) = %q, %d, want %d", sys, name, event, s, e, b.e)
				}
			}
			if s, e := notation.Column(5, b.p, event); s != "" || e != api.ErrSystem {
				t.Errorf("Column(5, %s, %d) = %q, %d", name, event, s, e)
			}
		}
		for _, sys := range systems {
			// Nothing of these events can be said in more than one of the systems.
			p := made("lute7", "4t 7/1r2g2", "- %")
			if s, e := notation.Column(sys, p, event); event != 0 && event != 1 && (s != "" || e != api.ErrArg) {
				t.Errorf("Column(%d, %d) = %q, %d", sys, event, s, e)
			}
			if s, e := notation.Column(sys, made("lute6"), event); s != "" || e != api.ErrArg {
				t.Errorf("Column(%d, nothing, %d) = %q, %d", sys, event, s, e)
			}
		}
		for _, sys := range noSystems() {
			if s, e := notation.Column(sys, made("lute6", "4 1/0"), event); s != "" || e != api.ErrSystem {
				t.Errorf("Column(%d, %d) = %q, %d", sys, event, s, e)
			}
		}
	}
}

// P3.11
func TestWrite(t *testing.T) {
	const lute = "G4/8 D4/8 A3/8 F3/8+ C3/8+ G2/8+ : 1 2 3 4 5 6 7 8\n"
	p := made("lute6", "4 1/2 3/0r1", "4 2/1h1", "5 3/3")
	for sys, want := range map[api.System]string{
		api.French:  "tablature french\n" + lute + "C c - a. - - -\nC - b_1 - - - -\nQ - - d - - -\n",
		api.Italian: "tablature italian\n" + lute + "C - - - 0. - 2\nC - - - - 1* -\nQ - - - 3 - -\n",
		api.German:  "tablature german\n" + lute + "C k 3.\nC d*\nQ n\n",
		api.Spanish: "",
	} {
		fault := api.OK
		if want == "" {
			fault = api.ErrCannot
		}
		if s, e := notation.Write(sys, p); s != want || e != fault {
			t.Errorf("Write(%d) = %q, %d", sys, s, e)
		}
	}
	for _, sys := range systems {
		if s, e := notation.Write(sys, made("lute6")); s != "tablature "+systemNames[sys]+"\n"+lute || e != api.OK {
			t.Errorf("Write(%d) of no events = %q, %d", sys, s, e)
		}
	}
	last := made("lute6", "4 1/0", "4 1/0r2")
	for _, sys := range systems[1:] {
		if s, e := notation.Write(sys, last); s != "" || e != api.ErrCannot {
			t.Errorf("Write(%d) of a lack at the end = %q, %d", sys, s, e)
		}
	}
}
