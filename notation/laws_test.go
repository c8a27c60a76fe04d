package notation_test

import (
	"math/rand/v2"
	"slices"
	"strings"
	"testing"

	"theorbo/api"
	"theorbo/instrument"
	"theorbo/notation"
	"theorbo/piece"
)

// P3.13: what is written is read.
func TestWriteThenRead(t *testing.T) {
	for _, sys := range systems {
		written := 0
		for _, p := range slices.Concat(pieces(t, sys), pieces(t, 0)) {
			text, e := notation.Write(sys, p)
			if e != api.OK {
				continue
			}
			written++
			got, back, line, e := notation.Read(text)
			if got != sys || !piece.Same(back, p) || shown(back) != shown(p) || line != 0 || e != api.OK {
				t.Fatalf("Read(%q) = %d, %s, %d, %d, not %s", text, got, shown(back), line, e, shown(p))
			}
		}
		if written < 250 {
			t.Errorf("system %d: only %d pieces written", sys, written)
		}
	}
}

// P3.13: what is read is written. The texts are written ones that have been changed.
func TestReadThenWrite(t *testing.T) {
	const letters = "abcdk0123479x/.:'#(_*t+&A-~%|CQM \n"
	r := rand.New(rand.NewPCG(11, 12))
	for _, sys := range systems {
		read, refused := 0, 0
		for _, p := range pieces(t, sys) {
			text, _ := notation.Write(sys, p)
			for range 40 {
				changed := changedText(r, text, letters)
				if readOnce(t, changed) {
					read++
				} else {
					refused++
				}
			}
		}
		if read < 200 || refused < 1000 {
			t.Errorf("system %d: %d texts read, %d refused", sys, read, refused)
		}
	}
}

// readOnce reports whether a text can be read.
func readOnce(t *testing.T, text string) bool {
	t.Helper()
	sys, p, line, e := notation.Read(text)
	if e != api.OK {
		if sys != 0 || !isZero(p) || line < 1 || line > strings.Count(text, "\n")+1 && line != 403 {
			t.Fatalf("Read(%q) = %d, %s, %d, %d", text, sys, shown(p), line, e)
		}
		return false
	}
	again, f := notation.Write(sys, p)
	got, want := strings.SplitN(again, "\n", 3), strings.SplitN(text, "\n", 3)
	if line != 0 || piece.Check(p) != api.OK || f != api.OK || len(got) != 3 || len(want) != 3 || got[0] != want[0] || got[2] != want[2] {
		t.Fatalf("Read(%q) = %d, %s, %d, which is %q, %d", text, sys, shown(p), line, again, f)
	}
	if in, e := instrument.Parse(want[1]); e != api.OK || !instrument.Same(in, p.Instrument) {
		t.Fatalf("Read(%q): another instrument, %v", text, p.Instrument)
	}
	return true
}

// P3.15
func TestWhatSystemsCanSay(t *testing.T) {
	low := func(p api.Piece) bool {
		return slices.ContainsFunc(p.Events, func(ev api.Event) bool {
			return slices.ContainsFunc(ev.Stops, func(st api.Stop) bool { return st.Course >= 11 && st.Fret > 0 })
		})
	}
	said, unsaid := 0, 0
	for _, sys := range append([]api.System{0}, systems...) {
		for _, p := range pieces(t, sys) {
			if notation.Can(api.French, p) == low(p) {
				t.Fatalf("in French: %s", shown(p))
			}
			if low(p) {
				unsaid++
			}
			if notation.Can(api.Spanish, p) {
				said++
				if !notation.Can(api.Italian, p) {
					t.Fatalf("in Spanish, but not in Italian: %s", shown(p))
				}
			}
		}
	}
	if said < 250 || unsaid < 10 {
		t.Errorf("%d pieces in Spanish, %d not in French", said, unsaid)
	}
}

// R4: what is read shares no memory with what is read again, nor one list of it with another.
func TestReadIsNewMemory(t *testing.T) {
	const text = "tablature french\n" + lute6Line + "C a b c - - -\nC - - b d - -\n- %\nC - a - - - f\n"
	_, p, _, e := notation.Read(text)
	if e != api.OK {
		t.Fatalf("Read: %d", e)
	}
	kept := shown(p)
	for i, ev := range p.Events {
		for j := range ev.Stops[:cap(ev.Stops)] {
			ev.Stops[:cap(ev.Stops)][j] = api.Stop{Course: i, Fret: j}
		}
	}
	for i, ev := range p.Events {
		for j, st := range ev.Stops {
			if st != (api.Stop{Course: i, Fret: j}) {
				t.Errorf("two events share memory")
			}
		}
	}
	p.Instrument.Courses[0].Pitch, p.Instrument.Steps[0] = 0, 99
	if _, again, _, _ := notation.Read(text); shown(again) != kept {
		t.Errorf("read again: %s, not %s", shown(again), kept)
	}
}

// R3: an empty list says what a nil one says.
func TestEmptyLists(t *testing.T) {
	for _, sys := range systems {
		for _, p := range []api.Piece{made("lute6"), made("lute6", "4 1/0", "4 ~"), made("lute6", "4 %", "4 1/1h1", "4 ~")} {
			empty := p
			empty.Events = slices.Grow([]api.Event{}, 9)
			for _, ev := range p.Events {
				ev.Stops = append(slices.Grow([]api.Stop{}, 9), ev.Stops...)
				empty.Events = append(empty.Events, ev)
			}
			checkPiece(t, sys, p)
			checkPiece(t, sys, empty)
		}
	}
	bare := api.Piece{Instrument: api.Instrument{Courses: []api.Course{{Pitch: 60}}, Steps: []int{}}, Events: made("lute6", "4 1/0").Events}
	for _, sys := range systems {
		checkPiece(t, sys, bare)
	}
}

// P0.1, R5: no argument makes a function panic or go on for ever.
func TestHostileArguments(t *testing.T) {
	texts := []string{"", "-", "|", "\x00", "\xff\xfe", "a_99999999999999999999", "9999999999999999999999", strings.Repeat("/", 70000), strings.Repeat("_", 70000), "é&", "tablature french\n:\n|\n"}
	for sys := api.System(0); sys < 7; sys++ {
		for _, x := range hostile {
			for _, text := range texts {
				notation.ParseTime(sys, text)
				notation.Place(sys, x, text)
				notation.ParseCell(sys, x, text, 15)
				notation.ParseCell(sys, 0, text, x)
			}
			for _, y := range hostile {
				st := api.Stop{Course: x, Fret: y, Right: y, Grace: x, Hold: y}
				notation.Symbol(sys, api.Place{Course: x, Fret: y})
				notation.Cell(sys, st, x)
				notation.Cell(sys, api.Stop{Course: 1, Fret: 1, Right: x, Grace: y, Hold: x}, y)
				notation.Line(sys, api.Instrument{Courses: []api.Course{{Pitch: x, Frets: y}}, Steps: []int{y, x}}, x)
				p := api.Piece{Instrument: standard("lute6"), Events: []api.Event{
					{Sign: api.Sign{Value: x, Dot: true}, Stops: []api.Stop{st}},
					{Tie: true, Stops: []api.Stop{st, st}},
				}}
				notation.Lacks(sys, p)
				notation.Can(sys, p)
				notation.Column(sys, p, y)
				notation.Write(sys, p)
				notation.Time(sys, p.Events[0].Sign)
			}
		}
	}
	for _, text := range texts {
		notation.ParseSystem(text)
		notation.Read(text)
		notation.Read("tablature german\n" + lute6Line + text)
	}
}
