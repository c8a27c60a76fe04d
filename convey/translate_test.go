package convey_test

import (
	"fmt"
	"math/rand/v2"
	"slices"
	"strings"
	"testing"

	"theorbo/api"
	"theorbo/convey"
	"theorbo/notation"
	"theorbo/piece"
)

const lute6Line = "G4/8 D4/8 A3/8 F3/8+ C3/8+ G2/8+ : 1 2 3 4 5 6 7 8\n"

// written writes a piece that the system can say.
func written(t *testing.T, sys api.System, p api.Piece) string {
	t.Helper()
	text, e := notation.Write(sys, p)
	if e != api.OK {
		t.Fatalf("Write(%d, %s): error %d", sys, shown(p), e)
	}
	return text
}

// P4.2: texts that are written out.
func TestTranslateWritten(t *testing.T) {
	for _, c := range []struct {
		to         api.System
		text, want string
		lost       string
	}{
		{api.German, "tablature french\n" + lute6Line + "C c - a. - - -\n- - b_1 - - - -\nQ - - d - - -\n", "tablature german\n" + lute6Line + "C k 3.\nC d*\nQ n\n", ""},
		{api.French, "tablature german\n" + lute6Line + "C k 3.\nC d*\nQ n\n", "tablature french\n" + lute6Line + "C c - a. - - -\nC - b_1 - - - -\nQ - - d - - -\n", ""},
		{api.Italian, "tablature french\n" + lute6Line + "C c - a: - - -\n| - ~\n- %\n", "tablature italian\n" + lute6Line + "C - - - 0 - 2\n| - ~\n- %\n", "0.3 right"},
		{api.Spanish, "tablature italian\n" + lute6Line + "C 1 - - 0. - 2*\n| - ~\n- %\n", "tablature spanish\n" + lute6Line + "C 2 - 0 - - 1\n| - ~\n- ~\n", "0.1 hold, 0.3 right, 2.0 rest"},
		{api.French, "tablature french\n" + lute6Line, "tablature french\n" + lute6Line, ""},
		{api.Spanish, "tablature italian\nAb3/2 : 1 2\nC 1t\n", "tablature spanish\nG#3/2 : 1 2\nC 1\n", "0.1 grace"},
	} {
		text, lost, e := convey.Translate(c.text, c.to)
		if text != c.want || told(lost) != c.lost || e != api.OK {
			t.Errorf("Translate(%q, %d) = %q, %s, %d", c.text, c.to, text, told(lost), e)
		}
	}
}

// P4.2: every piece, from every system that can say it.
func TestTranslate(t *testing.T) {
	for _, from := range systems {
		done := 0
		for _, p := range pieces() {
			q, _, e := convey.Reduce(from, p)
			if e != api.OK {
				continue
			}
			text := written(t, from, q)
			for _, to := range systems {
				want := reduced(to, q)
				wantText := ""
				if want.e == api.OK {
					wantText = written(t, to, want.p)
					done++
				}
				got, lost, e := convey.Translate(text, to)
				if got != wantText || told(lost) != told(want.lost) || e != want.e {
					t.Fatalf("Translate(%q, %d) = %q, %s, %d", text, to, got, told(lost), e)
				}
			}
		}
		if done < 400 {
			t.Errorf("system %d: only %d translations", from, done)
		}
	}
}

// P4.2: the errors and their order.
func TestTranslateErrors(t *testing.T) {
	const head = "tablature french\n" + lute6Line
	for _, c := range []struct {
		text string
		e    api.Errno // in the German system
	}{
		{"", api.ErrForm},
		{"tablature french", api.ErrForm},
		{"tablature english\n" + lute6Line, api.ErrForm},
		{"tablature french\nG4/8 : 1\n", api.ErrFret},
		{"tablature french\n:\n", api.ErrInstrument},
		{"tablature french\nG9/0 H :\n", api.ErrForm},
		{"tablature french\nC9/0 B9/0 :\n", api.ErrPitch},
		{head + "C a\n", api.ErrForm},
		{head + "C a - - - - -", api.ErrForm},
		{head + "- a - - - - -\n", api.ErrSign},
		{head + "C ~\n", api.ErrTie},
		{head + "C a - - - - - a\n", api.ErrCourse},
		{head + "C k - - - - -\n", api.ErrFret},
		{head + "C b_1 - - - - -\n", api.ErrHold},
		{head + "C3 b_1 - - - - -\n", api.ErrHold},
		{head + strings.Repeat("C %\n", 401), api.ErrMany},
		{head + strings.Repeat(" ", 65536), api.ErrMany},
		{head + "C3 a - - - - -\n", api.ErrCannot},
		{head + "C a - - - - -\nQ3 ~\n", api.ErrCannot},
	} {
		text, lost, e := convey.Translate(c.text, api.German)
		if text != "" || len(lost) > 0 || e != c.e {
			t.Errorf("Translate(%.60q) = %q, %s, %d", c.text, text, told(lost), e)
		}
		for _, to := range noSystems() {
			text, lost, e := convey.Translate(c.text, to)
			if text != "" || len(lost) > 0 || e != api.ErrSystem {
				t.Errorf("Translate(%.60q, %d) = %q, %s, %d", c.text, to, text, told(lost), e)
			}
		}
	}
	for _, to := range noSystems() {
		if text, lost, e := convey.Translate(head, to); text != "" || len(lost) > 0 || e != api.ErrSystem {
			t.Errorf("Translate(%d) = %q, %s, %d", to, text, told(lost), e)
		}
	}
	for _, line := range []string{"C %\n", "C %\n- a - - - - -\n"} {
		if text, lost, e := convey.Translate(head+line, api.Spanish); text != "" || len(lost) > 0 || e != api.ErrCannot {
			t.Errorf("Translate(%q) = %q, %s, %d", line, text, told(lost), e)
		}
	}
}

// P4.3
func TestSystems(t *testing.T) {
	for _, c := range []struct{ columns, want string }{
		{"", "[1 2 3 4]"},
		{"C 1a 6i", "[1 2 3 4]"},
		{"C 1a; - 2a", "[1 2 3]"},
		{"C 1a; C 2a", "[1 2 3 4]"},
		{"C 1a; C %", "[1 2 4]"},
		{"C 1a; C ~", "[1 2 3]"},
		{"C 1a; - %", "[1 2]"},
		{"C3 1a", "[1 2 3]"},
		{"C 1a.", "[1 2 4]"},
		{"C 1a#", "[1 2 4]"},
		{"C 1a,", "[1 2]"},
		{"C 1a:", "[1]"},
		{"C 7a", "[1 2]"},
		{"C 7b", "[1]"},
		{"C 1b_1; C 2a", "[1 2 4]"},
		{"C 1b_1; C 2a; C 2a", "[1]"},
	} {
		got, e := convey.Systems(made(standard("lute7"), c.columns))
		if fmt.Sprint(got) != c.want || e != api.OK {
			t.Errorf("Systems(%s) = %d, %d", c.columns, got, e)
		}
	}
	if got, e := convey.Systems(made(wide(), "C 11b")); len(got) != 0 || e != api.OK {
		t.Errorf("Systems of a fretted course 11: %d, %d", got, e)
	}
	for _, p := range pieces() {
		var want []api.System
		for _, sys := range systems {
			if notation.Can(sys, p) {
				want = append(want, sys)
			}
		}
		if got, e := convey.Systems(p); !slices.Equal(got, want) || e != api.OK {
			t.Fatalf("Systems(%s) = %d, %d", shown(p), got, e)
		}
	}
	for _, b := range broken() {
		if got, e := convey.Systems(b.p); len(got) > 0 || e != b.e {
			t.Errorf("Systems of %s = %d, %d", b.name, got, e)
		}
	}
}

// poor returns pieces of which most systems can say most.
func poor() []api.Piece {
	r := rand.New(rand.NewPCG(9, 10))
	var l []api.Piece
	for range 300 {
		p := random(r, anyInstrument(r), 1+r.IntN(9))
		p, _ = piece.Plain(p)
		for i := range p.Events {
			p.Events[i].Sign.Three = false
		}
		for _, sys := range []api.System{api.Italian, api.German, api.Spanish} {
			if q, _, e := convey.Reduce(sys, p); e == api.OK && r.IntN(3) > 0 {
				p = q
			}
		}
		l = append(l, p)
	}
	return l
}

// P4.11, P0.2: there and back.
func TestThereAndBack(t *testing.T) {
	done := map[string]int{}
	for _, p := range slices.Concat(poor(), pieces()) {
		able, _ := convey.Systems(p)
		for _, one := range able {
			for _, other := range able {
				text := written(t, one, p)
				there, lost, e := convey.Translate(text, other)
				if len(lost) > 0 || e != api.OK {
					t.Fatalf("Translate(%q, %d) loses %s, %d", text, other, told(lost), e)
				}
				back, lost, e := convey.Translate(there, one)
				if len(lost) > 0 || e != api.OK {
					t.Fatalf("Translate(%q, %d) loses %s, %d", there, one, told(lost), e)
				}
				sys, q, _, e := notation.Read(back)
				if sys != one || e != api.OK || !piece.Alike(p, q) {
					t.Fatalf("%q\n becomes %q\n and %q", text, there, back)
				}
				done[fmt.Sprint(one, other)]++
			}
		}
	}
	for _, one := range systems {
		for _, other := range systems {
			if done[fmt.Sprint(one, other)] < 30 {
				t.Errorf("there and back: %v", done)
			}
		}
	}
}

// P0.2: whatever a translation loses nothing of, in whatever direction.
func TestLosslessTranslation(t *testing.T) {
	done := 0
	for _, p := range pieces() {
		for _, to := range systems {
			if !notation.Can(api.French, p) {
				continue
			}
			there, lost, e := convey.Translate(written(t, api.French, p), to)
			if len(lost) > 0 || e != api.OK {
				continue
			}
			back, _, e := convey.Translate(there, api.French)
			_, q, _, _ := notation.Read(back)
			if e != api.OK || !piece.Alike(p, q) {
				t.Fatalf("%s becomes %q and %q", shown(p), there, back)
			}
			done++
		}
	}
	if done < 300 {
		t.Errorf("only %d translations without losses", done)
	}
}
