package notation_test

import (
	"strings"
	"testing"

	"theorbo/api"
	"theorbo/notation"
)

const (
	lute6Line   = "G4/8 D4/8 A3/8 F3/8+ C3/8+ G2/8+ : 1 2 3 4 5 6 7 8\n"
	lute7Line   = "G4/8 D4/8 A3/8 F3/8+ C3/8+ G2/8+ D2/8+ : 1 2 3 4 5 6 7 8\n"
	guitar4Line = "A4/8 E4/8 C4/8 G3/8+ : 1 2 3 4 5 6 7 8\n"
	theorboLine = "A3/8 E3/8 B3/8 G3/8 D3/8 A2/8 G2/0 F2/0 E2/0 D2/0 C2/0 B1/0 A1/0 G1/0 : 1 2 3 4 5 6 7 8\n"
	oneLine     = "C4/1 : 1\n"
)

// readsAs reports a text that is not read as a piece.
func readsAs(t *testing.T, text string, wantSys api.System, want api.Piece) {
	t.Helper()
	sys, p, line, e := notation.Read(text)
	if sys != wantSys || shown(p) != shown(want) || line != 0 || e != api.OK {
		t.Errorf("Read(%q) = %d, %s, %d, %d, want %s", text, sys, shown(p), line, e, shown(want))
	}
}

// refuses reports a text that is not refused in a line with an error.
func refuses(t *testing.T, text string, wantLine int, want api.Errno) {
	t.Helper()
	sys, p, line, e := notation.Read(text)
	if sys != 0 || !isZero(p) || line != wantLine || e != want {
		if len(text) > 500 {
			text = text[:500]
		}
		t.Errorf("Read(%q) = %d, %s, %d, %d, want %d, %d", text, sys, shown(p), line, e, wantLine, want)
	}
}

// headed puts a heading and the line of an instrument before columns that semicolons divide.
func headed(sys api.System, line, columns string) string {
	text := "tablature " + systemNames[sys] + "\n" + line
	if columns != "" {
		text += strings.ReplaceAll(columns, ";", "\n") + "\n"
	}
	return text
}

// P3.12
func TestRead(t *testing.T) {
	want := made("lute6", "4 1/2 3/0r1", "- 2/1h1", "5 3/3")
	readsAs(t, "tablature french\n"+lute6Line+"C c - a. - - -\n- - b_1 - - - -\nQ - - d - - -\n", api.French, want)
	readsAs(t, "tablature italian\n"+lute6Line+"C - - - 0. - 2\n- - - - - 1* -\nQ - - - 3 - -\n", api.Italian, want)
	want.Events[1].Sign = api.Sign{Value: 4}
	readsAs(t, "tablature german\n"+lute6Line+"C k 3.\nC d*\nQ n\n", api.German, want)
	want = made("lute6", "4 1/2 3/0", "|- ~", "5t 3/7")
	readsAs(t, "tablature spanish\n"+lute6Line+"C 2 - 0 - - -\n| - ~\nQ3 - - 7 - - -\n", api.Spanish, want)
	readsAs(t, "tablature german\nG4/8 D4/8 A3/8 E#3/8+ B#2/8+ G2/8+ : 1 2 3 4 5 6 7 8\nM +\n", api.German, made("lute6", "3 6/0"))
}

// P3.12: columns of all kinds.
func TestReadColumns(t *testing.T) {
	for _, c := range []struct {
		sys             api.System
		line, name      string
		columns, events string
	}{
		{api.French, lute6Line, "lute6", "", ""},
		{api.Italian, theorboLine, "theorbo14", "", ""},
		{api.French, lute7Line, "lute7", "C c - a. - - - a", "4 1/2 3/0r1 7/0"},
		{api.Italian, lute7Line, "lute7", "C 7 - - - 0. - 2", "4 1/2 3/0r1 7/0"},
		{api.French, theorboLine, "theorbo14", "D3 - - - - - - a /a ///a 4 7", "7t 7/0 8/0 10/0 11/0 14/0"},
		{api.Italian, theorboLine, "theorbo14", "D3 14 11 x 8 7 - - - - - -", "7t 7/0 8/0 10/0 11/0 14/0"},
		{api.Italian, theorboLine, "theorbo14", "Q 13.t 8 - - - - 1", "5 1/1 6/8 13/0r1g1"},
		{api.French, guitar4Line, "guitar4", "| S. - - - i:#;- ~;| - %;X a b c d", "|2. 4/8r2g3; - ~; |- %; 6 1/0 2/1 3/2 4/3"},
		{api.Spanish, guitar4Line, "guitar4", "| S3 - - - 8;- ~;| - 1 - - -", "|2t 4/8; - ~; |- 1/1"},
		{api.German, guitar4Line, "guitar4", "| S 5 mm;M %;| M b.#", "|2 1/0 4/8; 3 %; |3 4/1r1g3"},
		{api.German, lute6Line, "lute6", "B 5 4 3 2 1 +;X kk* H#;D o;D. %", "1 1/0 2/0 3/0 4/0 5/0 6/0; 6 1/7h1 6/8g3; 7 2/3; 7. %"},
		{api.French, lute6Line, "lute6", "C b_3 c_2 d_1 - - -;- ~;- - - - b - -;- - - a - - -;- a a a - - -", "4 1/1h3 2/2h2 3/3h1; - ~; - 4/1; - 3/0; - 1/0 2/0 3/0"},
		{api.Italian, lute6Line, "lute6", "C - - - 3* 2* 1*;- ~;- - - 1* - - -;- - - - 0 - -;- - - - 0 0 0;- %", "4 1/1h3 2/2h3 3/3h2; - ~; - 4/1h2; - 3/0; - 1/0 2/0 3/0; - %"},
	} {
		var events []string
		if c.events != "" {
			events = strings.Split(c.events, ";")
		}
		readsAs(t, headed(c.sys, c.line, c.columns), c.sys, made(c.name, events...))
	}
}

// P3.12: the first two lines, and the length of the text.
func TestReadHeadErrors(t *testing.T) {
	for _, c := range []struct {
		text string
		line int
		e    api.Errno
	}{
		{strings.Repeat("x", 65537), 0, api.ErrMany},
		{strings.Repeat("\n", 65537), 0, api.ErrMany},
		{"tablature french\n" + lute6Line + strings.Repeat("C %\n", 400) + strings.Repeat(" ", 65536), 0, api.ErrMany},
		{strings.Repeat("x", 65536), 1, api.ErrForm},
		{strings.Repeat("\n", 65536), 1, api.ErrForm},
		{"", 1, api.ErrForm},
		{"\n", 1, api.ErrForm},
		{"x", 1, api.ErrForm},
		{"tablature", 1, api.ErrForm},
		{"tablature\n" + lute6Line, 1, api.ErrForm},
		{"tablature \n" + lute6Line, 1, api.ErrForm},
		{"tablature french", 1, api.ErrForm},
		{"tablature French\n" + lute6Line, 1, api.ErrForm},
		{"tablature  french\n" + lute6Line, 1, api.ErrForm},
		{" tablature french\n" + lute6Line, 1, api.ErrForm},
		{"tablature french \n" + lute6Line, 1, api.ErrForm},
		{"tablature french\r\n" + lute6Line, 1, api.ErrForm},
		{"Tablature french\n" + lute6Line, 1, api.ErrForm},
		{"tablature lute\nx\n", 1, api.ErrForm},
		{"french\n" + lute6Line, 1, api.ErrForm},
		{"\ntablature french\n" + lute6Line, 1, api.ErrForm},
		{"tablature x\n" + lute6Line + strings.Repeat("x\n", 401), 1, api.ErrForm},
		{"tablature french\n", 2, api.ErrForm},
		{"tablature french\n\n", 2, api.ErrForm},
		{"tablature french\n" + strings.TrimSuffix(lute6Line, "\n"), 2, api.ErrForm},
		{"tablature french\nG9/1 : 1", 2, api.ErrForm},
		{"tablature french\nG9/1 : 1\n", 2, api.ErrPitch},
		{"tablature french\nG4/1 :\n", 2, api.ErrFret},
		{"tablature french\nG4/1 : 1 1\n", 2, api.ErrInstrument},
		{"tablature french\n:\n", 2, api.ErrInstrument},
		{"tablature french\n: x\n", 2, api.ErrForm},
		{"tablature french\n" + strings.Repeat("C4/0 ", 15) + ":\n", 2, api.ErrMany},
		{"tablature french\nG4/8  : 1\nx\n", 2, api.ErrForm},
		{"tablature french\nlute6\n", 2, api.ErrForm},
		{"tablature french\nG4/1 :\n" + strings.Repeat("x\n", 401), 2, api.ErrFret},
	} {
		refuses(t, c.text, c.line, c.e)
	}
}

// P3.12: the number of lines.
func TestReadCount(t *testing.T) {
	const head = "tablature french\n" + oneLine
	readsAs(t, head+strings.Repeat("D %\n", 400), api.French, api.Piece{
		Instrument: api.Instrument{Courses: []api.Course{{Pitch: 60, Frets: 1}}, Steps: []int{1}},
		Events:     made("lute6", strings.Split(strings.Repeat("7 %;", 399)+"7 %", ";")...).Events,
	})
	refuses(t, head+strings.Repeat("D %\n", 401), 403, api.ErrMany)
	refuses(t, head+strings.Repeat("D %\n", 500), 403, api.ErrMany)
	refuses(t, head+strings.Repeat("D %\n", 400)+"D %", 403, api.ErrMany)
	refuses(t, head+strings.Repeat("x\n", 401), 403, api.ErrMany)
	refuses(t, head+strings.Repeat("\n", 401), 403, api.ErrMany)
	refuses(t, head+strings.Repeat("\n", 400), 3, api.ErrForm)
	refuses(t, head+strings.Repeat("D %\n", 399)+"D %", 402, api.ErrForm)
	refuses(t, head+strings.Repeat("D %\n", 399)+"x\n", 402, api.ErrForm)
}

// P3.12: the columns of a piece, up to the first one that is wrong.
func TestReadColumnErrors(t *testing.T) {
	for _, c := range []struct {
		sys     api.System
		head    string
		columns string
		line    int
		e       api.Errno
	}{
		{api.French, lute6Line, "C a - - - - -;C %;", 5, api.ErrForm},
		{api.French, lute6Line, "C a - - - - -;x;- ?", 4, api.ErrForm},
		{api.French, lute6Line, "C a - - - - -;- - - - - - -", 4, api.ErrForm},
		{api.French, lute6Line, "- a - - - - -", 3, api.ErrSign},
		{api.French, lute6Line, "- %", 3, api.ErrSign},
		{api.French, lute6Line, "- ~", 3, api.ErrSign},
		{api.French, lute6Line, "| - ~", 3, api.ErrSign},
		{api.French, lute6Line, "- t - - - - - a", 3, api.ErrSign},
		{api.French, lute6Line, "C ~", 3, api.ErrTie},
		{api.French, lute6Line, "C ~;x", 3, api.ErrTie},
		{api.French, lute6Line, "C %;x;- t - - - - -", 4, api.ErrForm},
		{api.French, lute6Line, "C i - - - - -;C k - - - - -", 4, api.ErrFret},
		{api.French, lute6Line, "C k - - - - - a", 3, api.ErrFret},
		{api.French, lute6Line, "C i - - - - - a", 3, api.ErrCourse},
		{api.French, lute6Line, "C - - - - - - t", 3, api.ErrCourse},
		{api.French, lute6Line, "C - - - - - - 7", 3, api.ErrCourse},
		{api.French, lute7Line, "C - - - - - - k", 3, api.ErrFret},
		{api.French, lute7Line, "C - - - - - - i /a", 3, api.ErrCourse},
		{api.French, lute7Line, "C - - - - - - k /a", 3, api.ErrFret},
		{api.French, theorboLine, "C - - - - - - a b", 3, api.ErrForm},
		{api.French, theorboLine, "C - - - - - - a /b", 3, api.ErrFret},
		{api.French, guitar4Line, "C a - - - a", 3, api.ErrCourse},
		{api.Italian, guitar4Line, "C 7 a - - -", 3, api.ErrForm},
		{api.Italian, guitar4Line, "C 7 0 - - -", 3, api.ErrCourse},
		{api.Italian, lute6Line, "C 9 - - - - -", 3, api.ErrFret},
		{api.Italian, lute6Line, "C 7 - - - - - -", 3, api.ErrCourse},
		{api.Italian, lute6Line, "C 7 - - - - - 1", 3, api.ErrCourse},
		{api.Italian, lute6Line, "C 7 - - - - - 9", 3, api.ErrFret},
		{api.Spanish, lute6Line, "C - - x - - -", 3, api.ErrFret},
		{api.German, guitar4Line, "C 1", 3, api.ErrCourse},
		{api.German, guitar4Line, "C +", 3, api.ErrCourse},
		{api.German, guitar4Line, "C pp 1", 3, api.ErrCourse},
		{api.German, guitar4Line, "C vv 1", 3, api.ErrFret},
		{api.German, lute6Line, "C K", 3, api.ErrFret},
	} {
		refuses(t, headed(c.sys, c.head, c.columns), c.line, c.e)
	}
}

// P3.12: texts that are no columns, as the second column of a text.
func TestReadColumnForms(t *testing.T) {
	for _, c := range []struct {
		sys     api.System
		head    string
		columns []string
	}{
		{api.French, lute6Line, []string{
			"", " ", "C", "-", "|", "| ", "| C", "|C a - - - - -", "|| C %", "| | C %", "C | %", "C  %", "C % ", " C %", "C %\r", "C\t%",
			"~", "%", "~ C", "c %", "L %", "B.. %", "B.3 %", "B3. %", "-. %", "-3 %", "C ~ ~", "C % %", "C ~ %", "C ~ - - - - -", "C ~.", "C a",
			"C a - - - -", "C a  - - - -", "C a - - - - ", "C a - - - - - ", "C a - - - - - -", "C - - - - - -", "C - - - - - - -", "C a - ~ - - -", "C a - % - - -",
			"C j - - - - -", "C A - - - - -", "C 0 - - - - -", "C a. . - - - -", "C /a - - - - -", "C 4 - - - - -", "C a_1 - - - - -", "C b_16 - - - - -", "C b_0 - - - - -", "C b* - - - - -",
			"C a - - - - - /", "C a - - - - - ////a", "C a - - - - - 8", "C - - - - a", "a - - - - -", "\xff %", "C \xff - - - - -",
		}},
		{api.French, theorboLine, []string{
			"C - - - - - - a a", "C - - - - - - /a a", "C - - - - - - 5 4", "C - - - - - - 4 ///a", "C - - - - - - /a /a", "C - - - - - - a - 4", "C a - - - - - -", "C a a - - - - - -",
		}},
		{api.French, guitar4Line, []string{"C a - -", "C a - - - -", "C - - - -", "C a - - - - -"}},
		{api.Italian, lute6Line, []string{
			"C a - - - - -", "C 10 - - - - -", "C 0* - - - - -", "C 1_1 - - - - -", "C 1, - - - - -", "C - - - - - -", "C - - - - - 1 7", "C 0 - - - - -  ", "C 6 - - - - - 1", "C 10 - - - - - 1", "C 0 - - - -",
		}},
		{api.Italian, theorboLine, []string{
			"C 7 8 - - - - - 1", "C 14 14 - - - - - -", "C 8 9 - - - - - -", "C 7* - - - - - -", "C 13 x 11 - - - - - -", "C - 7 - - - - - -", "C - - - - - - 7", "C 15 - - - - - -",
		}},
		{api.Spanish, lute6Line, []string{"C %", "C 0. - - - - -", "C 0# - - - - -", "C 1* - - - - -", "C a - - - - -", "C 0 - - - - - 7", "C 7 0 - - - - -", "C - - - - - -", "C 0 0 0 0 0", "- %"}},
		{api.Spanish, lute7Line, []string{"C - - - - - - 0", "C - - - - - - 7", "C - - - - - - -", "C 0 - - - - - -"}},
		{api.German, lute6Line, []string{
			"C ~", "- 5", "C3 5", "- %", "C", "C -", "C 5 -", "C 4 5", "C 5 5", "C 5 e", "C d e", "C + 1", "C aaa", "C ab", "C 55", "C J", "C 5* 4", "C e_1", "C et", "C % 5", "C  5", "C 5 ", "| C", "C 5 4 3 2 1 + +",
		}},
	} {
		for _, column := range c.columns {
			refuses(t, headed(c.sys, c.head, "")+firstChord(c.sys, c.head)+"\n"+column+"\nx\n", 4, api.ErrForm)
		}
	}
}

// firstChord is a column that is right for an instrument.
func firstChord(sys api.System, head string) string {
	words := []string{"C", "-", "-", "-", "-", "-", "-"}
	if head == guitar4Line {
		words = words[:5]
	}
	words[2] = map[api.System]string{api.French: "a", api.Italian: "0", api.Spanish: "0", api.German: "4"}[sys]
	if sys == api.German {
		return "C 4"
	}
	return strings.Join(words, " ")
}

// P3.12: the last line must end with a line feed, but comes after the lines before it.
func TestReadLastLine(t *testing.T) {
	const head = "tablature french\n" + lute6Line
	refuses(t, head+"C %", 3, api.ErrForm)
	refuses(t, head+"C ~", 3, api.ErrForm)
	refuses(t, head+"- %", 3, api.ErrForm)
	refuses(t, head+"C %\nC %", 4, api.ErrForm)
	refuses(t, head+"C ~\nC %", 3, api.ErrTie)
	refuses(t, head+"C b_1 - - - - -\nC %\nC %", 5, api.ErrForm)
	refuses(t, head+"C %\n\n", 4, api.ErrForm)
	refuses(t, head+"C %\n ", 4, api.ErrForm)
}

// P3.12: the holds, which come after all columns.
func TestReadHolds(t *testing.T) {
	for _, c := range []struct {
		sys     api.System
		columns string
		line    int
		e       api.Errno
	}{
		{api.French, "C b_1 - - - - -", 3, api.ErrHold},
		{api.French, "C a - - - - -;C b_1 - - - - -;- %", 4, api.ErrHold},
		{api.French, "C b_1 - - - - -;- a - - - - -", 3, api.ErrHold},
		{api.French, "C b_2 - - - - -;- ~;- %", 3, api.ErrHold},
		{api.French, "C b_1 c_2 - - - -;- ~;- - a - - - -", 3, api.ErrHold},
		{api.French, "C b_1 - - - - -;- - b_1 - - - -", 4, api.ErrHold},
		{api.French, "C b_9 - - - - -;- - b_9 - - - -;- ~", 3, api.ErrHold},
		{api.French, "C b_9 - - - - -;- ~;- k - - - - -", 5, api.ErrFret},
		{api.French, "C b_9 - - - - -;- ~;x", 5, api.ErrForm},
		{api.French, "C b_15 - - - - -" + strings.Repeat(";- ~", 14), 3, api.ErrHold},
		{api.Italian, "C - - - - - 1*", 3, api.ErrHold},
		{api.Italian, "C - - - - - 1*;- %", 3, api.ErrHold},
		{api.Italian, "C - - - - - 1*;- - - - - - 1", 3, api.ErrHold},
		{api.Italian, "C - - - - - 1*;- - - - - 1* -", 4, api.ErrHold},
		{api.Italian, "C - - - - - 1*;- - - - - 1* -;- %", 4, api.ErrHold},
		{api.German, "C e*", 3, api.ErrHold},
		{api.German, "C e*;C %", 3, api.ErrHold},
		{api.German, "C e*;C e", 3, api.ErrHold},
		{api.German, "C e*;C d*;C e", 0, api.OK},
		{api.French, "C b_15 - - - - -" + strings.Repeat(";- ~", 15), 0, api.OK},
		{api.French, "C b_15 - - - - -" + strings.Repeat(";- ~", 16), 0, api.OK},
	} {
		text := headed(c.sys, lute6Line, c.columns)
		if c.e != api.OK {
			refuses(t, text, c.line, c.e)
		} else if sys, _, line, e := notation.Read(text); sys != c.sys || line != 0 || e != api.OK {
			t.Errorf("Read(%q) = %d, %d, %d", text, sys, line, e)
		}
	}
	// The star is the longest hold, which is never above 15.
	for ties := 1; ties <= 20; ties++ {
		_, p, _, e := notation.Read(headed(api.Italian, lute6Line, "C - - - - - 1*"+strings.Repeat(";- ~", ties)))
		if e != api.OK || p.Events[0].Stops[0].Hold != min(ties, 15) {
			t.Errorf("a star before %d ties: %s, %d", ties, shown(p), e)
		}
	}
}
