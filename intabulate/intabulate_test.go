package intabulate_test

import (
	"fmt"
	"slices"
	"strings"
	"testing"

	"theorbo/api"
	"theorbo/hand"
	"theorbo/instrument"
	"theorbo/intabulate"
	"theorbo/piece"
)

// shown writes what a setting has: its events, places and losses.
func shown(s api.Setting) string {
	return shownEvents(s.Piece.Events) + " | " + shownWhere(s.Where) + " | " + shownLosses(s.Losses)
}

// P8.3: the examples of the document.
func TestExamples(t *testing.T) {
	one := strung("C4/5 : 1 2 3 4 5")
	for _, c := range []struct {
		parts string
		in    api.Instrument
		want  string
	}{
		{"67 0 96, 69 96 192", lute(), "3 1.0; 3 1.2 | 1.0 1.2 | "},
		{"67 0 192; 67 0 96, 60 96 192", lute(), "3 1.0; 3 3.3 | 1.0; 1.0 3.3 | 1.0 doubled 0"},
		{"60 0 192; 62 96 192", one, "3 1.0; 3 1.2 | 1.0; 1.2 | 0.0 cut 96"},
		{"30 0 96; 67 0 96", lute(), "3 1.0 | -; 1.0 | 0.0 dropped 0"},
		{"none", lute(), " |  | "},
		{"", lute(), " |  | "},
		{"67 96 192", lute(), "3 %; 3 1.0 | 1.0 | "},
	} {
		s, e := intabulate.Intabulate(parts(c.parts), c.in, hand.Standard(), 0)
		wants(t, "Intabulate of "+c.parts, shown(s), e, c.want)
		if !instrument.Same(s.Piece.Instrument, c.in) || s.Shift != 0 {
			t.Errorf("Intabulate of %s is for %v, with the shift %d", c.parts, s.Piece.Instrument, s.Shift)
		}
	}
	if s, e := intabulate.Intabulate(parts("67 0 5"), lute(), hand.Standard(), 0); e != api.ErrTime || !sameSetting(s, api.Setting{}) {
		t.Errorf("Intabulate of 5 ticks = %v, %d", s, e)
	}
}

// check compares a setting with the right one, and this with the document.
func check(t *testing.T, k task, want string) {
	t.Helper()
	s, e := k.set()
	wants(t, "Intabulate of "+k.String(), shown(s), e, want)
	if by := k.written(); !sameSetting(s, by) {
		t.Errorf("Intabulate of %v: by the document %s", k, shown(by))
	}
}

// P8.3: the order of choices, rule by rule.
func TestOrder(t *testing.T) {
	for _, c := range []struct{ name, courses, parts, want string }{
		{"the later note is dropped", "C4/5", "62 0 96; 60 0 96", "3 1.2 | 1.2; - | 1.0 dropped 0"},
		{"rather cut than dropped", "C4/5", "62 0 96; 60 48 96", "4 1.2; 4 1.0 | 1.2; 1.0 | 0.0 cut 48"},
		{"rather one cut than low frets", "C4/5 G3/8", "60 0 96; 62 48 96", "4 1.0; 4 2.7 | 1.0; 2.7 | "},
		{"the later unfinished note is cut", "C4/5 C4/5", "61 0 96; 62 0 96; 63 48 96", "4 1.1_1 2.2; 4 2.3 | 1.1; 2.2; 2.3 | 1.0 cut 48"},
		{"later is what has a later part", "C4/5 C4/5", "62 48 144; 61 0 144; 63 96 144", "4 1.1_1; 4 2.2_1; 4 1.3 | 2.2; 1.1; 1.3 | 1.0 cut 96"},
		{"of one part what began later", "C4/5 C4/5", "61 0 48, 62 48 144; 61 0 144; 63 96 144", "4 1.1_2; 4 2.2; 4 2.3 | 1.1 2.2; 1.1; 2.3 | 0.1 cut 96, 1.0 doubled 0"},
		{"low frets", "G3/5 C4/5", "60 0 96", "3 2.0 | 2.0 | "},
		{"low frets of all new notes", "G3/8 C4/5", "60 0 96; 62 0 96", "3 1.5 2.2 | 1.5; 2.2 | "},
		{"low courses", "C4/5 C4/5", "62 0 96", "3 1.2 | 1.2 | "},
		{"low courses of the first note", "C4/5 C4/5 C4/5", "62 0 96; 60 0 96; 64 0 96", "3 1.2 2.0 3.4 | 1.2; 2.0; 3.4 | "},
		{"notes in order of their first members", "C4/5", "60 0 96; 62 0 96; 60 0 96", "3 1.0 | 1.0; -; 1.0 | 1.0 dropped 0, 2.0 doubled 0"},
		{"one that is dropped does not count", "C4/5 C4/5", "30 0 96; 62 0 96; 62 0 96", "3 1.2 | -; 1.2; 1.2 | 0.0 dropped 0, 2.0 doubled 0"},
		{"no pitch above the highest one", "C4/5", "127 0 96, 0 96 192", "3 %; 3 % | - - | 0.0 dropped 0, 0.1 dropped 96"},
	} {
		t.Run(c.name, func(t *testing.T) {
			check(t, task{parts(c.parts), strung(c.courses + " : 1 2 3 4 5 6 7 8"), hand.Standard(), 0}, c.want)
		})
	}
}

// P8.3: events, holds, ties and rests.
func TestEvents(t *testing.T) {
	for _, c := range []struct{ name, courses, parts, want string }{
		{"a stretch of two signs", "C4/5", "62 0 120", "3 1.2; 5 ~ | 1.2 | "},
		{"a rest of two signs", "C4/5", "62 120 168", "3 %; 5 %; 4 1.2 | 1.2 | "},
		{"dots and triplets", "C4/5", "62 0 72, 62 72 104", "4. 1.2; 4t 1.2 | 1.2 1.2 | "},
		{"a rest between notes", "C4/5", "62 0 48, 62 96 144", "4 1.2; 4 %; 4 1.2 | 1.2 1.2 | "},
		{"a note ends while another one sounds", "C4/5 G3/5", "62 0 96; 55 0 48", "3 1.2 2.0 | 1.2; 2.0 | "},
		{"a finger stays", "C4/5 G3/5", "62 0 144; 55 0 48, 56 48 96, 58 96 144", "4 1.2_2 2.0; 4 2.1; 4 2.3 | 1.2; 2.0 2.1 2.3 | "},
		{"a finger stays over ties", "C4/5 G3/5", "62 0 240; 55 0 120, 56 120 240", "3 1.2_2 2.0; 5 ~; 3 2.1; 5 ~ | 1.2; 2.0 2.1 | "},
		{"a finger is lifted when its note is finished", "C4/5 G3/5", "62 0 48, 63 96 144; 55 0 96, 57 96 144", "3 1.2 2.0; 4 1.3 2.2 | 1.2 1.3; 2.0 2.2 | "},
		{"no finger stays on for a finished note", "C4/5 G3/5", "62 0 48; 55 0 48, 56 48 96", "4 1.2 2.0; 4 2.1 | 1.2; 2.0 2.1 | "},
		{"a tie where all is dropped", "C4/5 G3/5", "61 0 96, 62 192 288; 55 0 288; 30 96 192", "3 1.1 2.0; 3 ~; 3 1.2 | 1.1 1.2; 2.0; - | 2.0 dropped 96"},
		{"a rest where all is dropped", "C4/5", "30 0 96, 60 96 192", "3 %; 3 1.0 | - 1.0 | 0.0 dropped 0"},
		{"an open string is not lifted", "C4/5 G3/5", "60 0 240; 55 0 48, 56 48 96, 57 96 240", "4 1.0 2.0; 4 2.1; 3. 2.2 | 1.0; 2.0 2.1 2.2 | "},
		{"what is doubled lasts as long as the longest", "C4/5", "62 0 96; 62 0 192; 62 0 48; 64 96 192", "3 1.2; 3 1.4 | 1.2; 1.2; 1.2; 1.4 | 1.0 doubled 0, 1.0 cut 96, 2.0 doubled 0"},
	} {
		t.Run(c.name, func(t *testing.T) {
			check(t, task{parts(c.parts), strung(c.courses + " : 1 2 3 4 5"), hand.Standard(), 0}, c.want)
		})
	}
}

// P8.3: what the hand can do.
func TestHand(t *testing.T) {
	for _, c := range []struct {
		name, courses string
		h             api.Hand
		parts, want   string
	}{
		{"the finger that stays is another one", "C4/5 G3/5", hand.Standard(), "62 0 144; 56 48 96, 57 96 144", "4 1.2_1; 4 2.1; 4 2.2 | 1.2; 2.1 2.2 | 0.0 cut 96"},
		{"an open string under a barre", "C4/5 A3/5 F3/5", hand.Standard(), "62 0 96; 57 0 96; 55 0 96", "3 1.2 2.0 | 1.2; 2.0; - | 2.0 dropped 0"},
		{"rather no open string than no barre", "C4/5 A3/0 F3/3 C3/5", hand.Standard(), "62 0 96; 57 0 96; 55 0 96; 50 0 96", "3 1.2 3.2 4.2 | 1.2; -; 3.2; 4.2 | 1.0 dropped 0"},
		{"a string that rings on under a barre", "C4/5 A3/5 F3/5", hand.Standard(), "57 0 48; 62 48 96; 55 48 96", "4 2.0; 4 2.5 3.2 | 2.0; 2.5; 3.2 | "},
		{"a string that does not ring on", "C4/5 A3/5 F3/5", hand.Standard(), "57 0 48; 62 96 144; 55 96 144", "4 2.0; 4 %; 4 1.2 3.2 | 2.0; 1.2; 3.2 | "},
		{"too far to jump", "C4/5", hooks(1, 5, 1), "61 0 48, 63 48 96", "4 1.1; 4 % | 1.1 - | 0.1 dropped 48"},
		{"not too far to jump", "C4/5", hooks(1, 5, 1), "61 0 48, 62 48 96", "4 1.1; 4 1.2 | 1.1 1.2 | "},
		{"a jump over a rest", "C4/5", hooks(1, 5, 1), "61 0 48, 63 96 144", "4 1.1; 4 %; 4 1.3 | 1.1 1.3 | "},
		{"a jump over an open string", "C4/5", hooks(1, 5, 1), "61 0 48, 60 48 96, 63 96 144", "4 1.1; 4 1.0; 4 1.3 | 1.1 1.0 1.3 | "},
		{"what is possible at the event before", "C4/5", hooks(2, 5, 1), "62 0 48, 64 48 96", "4 1.2; 4 1.4 | 1.2 1.4 | "},
		{"what is possible two events before", "C4/5", hooks(2, 5, 0), "62 0 48, 63 48 96, 61 96 144", "4 1.2; 4 1.3; 4 % | 1.2 1.3 - | 0.2 dropped 96"},
		{"nothing to begin with", "C4/5", hooks(1, 1, 0), "64 0 48, 61 48 96", "4 %; 4 1.1 | - 1.1 | 0.0 dropped 0"},
		{"a hand moves in ties", "C4/5", api.Hand{Low: []int{0, 0}, High: []int{2, 2}, Barre: []bool{false, false}, Top: 5, Jump: 1}, "61 0 48, 63 48 168, 65 168 216", "4 1.1; 3 1.3; 5 ~; 4 1.5 | 1.1 1.3 1.5 | "},
		{"too many grips", "C4/18 C#4/18 D4/18 Eb4/18", wide(), "69 0 96; 70 0 96; 71 0 96; 72 0 96", "3 1.9 2.9 3.10 4.8 | 1.9; 2.9; 4.8; 3.10 | "},
		{"too many grips of all choices", "C4/9 C#4/9 D4/9 Eb4/9", wide(), "69 0 96; 70 0 96; 71 0 96; 72 0 96", "3 2.8 3.8 4.8 | 2.8; 3.8; 4.8; - | 3.0 dropped 0"},
	} {
		t.Run(c.name, func(t *testing.T) {
			check(t, task{parts(c.parts), strung(c.courses + " : 1 2 3 4 5 6 7 8 9 10 11 12 13 14 15 16 17 18"), c.h, 0}, c.want)
		})
	}
}

// steady returns a part of tones that follow each other.
func steady(count, pitch, length int) []api.Tone {
	var p []api.Tone
	for i := range count {
		p = append(p, api.Tone{Pitch: pitch, From: i * length, To: (i + 1) * length})
	}
	return p
}

// P8.3: a finger stays for MaxHold events, but over any number of ties; an open string is not held.
func TestMaxHold(t *testing.T) {
	in := strung("C4/5 G3/5 : 1 2 3 4 5")
	for _, c := range []struct {
		name        string
		long, short int // the pitches of a long tone and of short ones
		count       int
		want        string
	}{
		{"15 events behind it", 61, 55, 16, "4 1.1_15 2.0 | "},
		{"16 events behind it", 61, 55, 17, "4 1.1_15 2.0 | 0.0 cut 768"},
		{"17 events behind it", 61, 55, 18, "4 1.1_15 2.0 | 0.0 cut 768"},
		{"an open string", 60, 55, 18, "4 1.0 2.0 | "},
		{"ties", 61, 30, 18, "4 1.1 | 1.0 dropped 0"},
	} {
		s := task{[][]api.Tone{{{Pitch: c.long, To: 48 * c.count}}, steady(c.count, c.short, 48)}, in, hand.Standard(), 0}.must(t)
		losses := s.Losses[:min(1, len(s.Losses))]
		wants(t, c.name, shownEvent(s.Piece.Events[0])+" | "+shownLosses(losses), api.OK, c.want)
		if len(s.Piece.Events) != c.count {
			t.Errorf("%s: %s", c.name, shown(s))
		}
	}
	// The events are counted, not the times: of a stretch that begins 14 events later each event counts.
	short := append(steady(13, 55, 48), part("55 624 744, 55 744 792")...)
	s := task{[][]api.Tone{{{Pitch: 61, To: 792}}, short}, in, hand.Standard(), 0}.must(t)
	wants(t, "two signs", shownEvent(s.Piece.Events[0])+" | "+shownLosses(s.Losses), api.OK, "4 1.1_15 2.0 | ")
	short = append(steady(13, 55, 48), part("55 624 744, 55 744 864, 55 864 912")...)
	s = task{[][]api.Tone{{{Pitch: 61, To: 912}}, short}, in, hand.Standard(), 0}.must(t)
	wants(t, "two signs twice", shownEvent(s.Piece.Events[0])+" | "+shownLosses(s.Losses), api.OK, "4 1.1_15 2.0 | 0.0 cut 864")
}

// P8.3: the shift is added to all pitches.
func TestShift(t *testing.T) {
	in := strung("C4/5 : 1 2 3 4 5")
	for _, c := range []struct {
		parts string
		shift int
		want  string
	}{
		{"60 0 96", 2, "3 1.2 | 1.2 | "},
		{"84 0 96", -24, "3 1.0 | 1.0 | "},
		{"36 0 96", 24, "3 1.0 | 1.0 | "},
		{"127 0 96, 0 96 192", 24, "3 %; 3 % | - - | 0.0 dropped 0, 0.1 dropped 96"},
		{"0 0 96, 127 96 192", -24, "3 %; 3 % | - - | 0.0 dropped 0, 0.1 dropped 96"},
	} {
		k := task{parts(c.parts), in, hand.Standard(), c.shift}
		check(t, k, c.want)
		if s := k.must(t); s.Shift != c.shift {
			t.Errorf("the shift of the setting of %v is %d", k, s.Shift)
		}
	}
}

// P8.3: all choices of small tasks, by the document.
func TestSmallTasks(t *testing.T) {
	tasks, settings := verdicts()
	var dropped, doubled, cut, rests, ties, holds int
	for i, k := range tasks {
		s := k.must(t)
		if want := settings[i]; !sameSetting(s, want) {
			t.Fatalf("Intabulate of %v =\n%s\nit should be\n%s", k, shown(s), shown(want))
		}
		for _, l := range s.Losses {
			*[]*int{nil, &dropped, &doubled, &cut}[l.Kind]++
		}
		for _, ev := range s.Piece.Events {
			switch {
			case ev.Tie:
				ties++
			case len(ev.Stops) == 0:
				rests++
			}
			for _, st := range ev.Stops {
				holds += st.Hold
			}
		}
	}
	for name, count := range map[string]int{"dropped": dropped, "doubled": doubled, "cut": cut, "rests": rests, "ties": ties, "holds": holds} {
		if count < 500 {
			t.Errorf("only %d %s", count, name)
		}
	}
}

// P8.3: Auto is Intabulate with the shift of Fit, with the errors in the order of Intabulate.
func TestAuto(t *testing.T) {
	tasks, _ := verdicts()
	for _, k := range tasks[:800] {
		shift, _, e := intabulate.Fit(k.parts, k.in)
		if e != api.OK {
			t.Fatalf("Fit of %v: %d", k, e)
		}
		want := task{k.parts, k.in, k.h, shift}.must(t)
		if s, e := intabulate.Auto(k.parts, k.in, k.h); e != api.OK || !sameSetting(s, want) {
			t.Fatalf("Auto of %v = %s, %d; it should be %s", k, shown(s), e, shown(want))
		}
	}
	s, e := intabulate.Auto(parts("42 0 96"), lute(), hand.Standard())
	wants(t, "Auto", fmt.Sprint(s.Shift, " ", shown(s)), e, "1 3 6.0 | 6.0 | ")
}

// P8.3, R1: the order of the errors of Intabulate and Auto.
func TestIntabulateErrors(t *testing.T) {
	good, in, h := parts("67 0 96; 60 0 48"), lute(), hand.Standard()
	short := parts("67 0 5")
	many := [][]api.Tone{steady(400, 67, 48), part("67 19200 19248")}
	shortAndMany := [][]api.Tone{steady(400, 67, 48), part("67 19200 19248, 67 19248 19253")}
	noInstrument := lute()
	noInstrument.Courses[0].Frets = 9
	noHand := hand.Standard()
	noHand.Top = 0
	for i, c := range []struct {
		parts [][]api.Tone
		in    api.Instrument
		h     api.Hand
		shift int
		want  api.Errno
	}{
		{make([][]api.Tone, 7), noInstrument, noHand, 25, api.ErrMany},
		{[][]api.Tone{make([]api.Tone, 401)}, noInstrument, noHand, 25, api.ErrMany},
		{parts("67 0 0"), noInstrument, noHand, 25, api.ErrPart},
		{short, noInstrument, noHand, 25, api.ErrFret},
		{short, in, noHand, 25, api.ErrHand},
		{short, in, h, 25, api.ErrArg},
		{short, in, h, -25, api.ErrArg},
		{short, in, h, 24, api.ErrTime},
		{shortAndMany, in, h, 0, api.ErrTime},
		{many, in, h, 0, api.ErrMany},
		{many[:1], in, h, 0, api.OK},
		{many, in, h, 25, api.ErrArg},
		{parts("67 0 4608"), in, h, 0, api.OK},
		{parts("67 0 4609"), in, h, 0, api.ErrTime},
		{parts("67 5000 5048"), in, h, 0, api.ErrTime},
		{parts("67 7 103"), in, h, 0, api.ErrTime},
		{parts("67 0 96; 60 11 96"), in, h, 0, api.ErrTime},
		{parts("67 0 96; 60 48 91"), in, h, 0, api.OK}, // what ends while something sounds is no time
		{good, in, h, 24, api.OK},
		{good, in, h, -24, api.OK},
	} {
		s, e := intabulate.Intabulate(c.parts, c.in, c.h, c.shift)
		if e != c.want || e != api.OK && !sameSetting(s, api.Setting{}) {
			t.Errorf("%d: Intabulate = %s, %d; it should be %d", i, shown(s), e, c.want)
		}
		if c.want == api.ErrArg {
			continue
		}
		s, e = intabulate.Auto(c.parts, c.in, c.h)
		if e != c.want || e != api.OK && !sameSetting(s, api.Setting{}) {
			t.Errorf("%d: Auto = %s, %d; it should be %d", i, shown(s), e, c.want)
		}
	}
}

// P8.3: as many events as there may be, also if some of them are not the first ones of their stretches.
func TestMostEvents(t *testing.T) {
	for _, c := range []struct {
		length, count int
		want          api.Errno
	}{
		{48, 400, api.OK}, {120, 200, api.OK}, {120, 201, api.ErrMany}, {4608, 50, api.OK}, {4608, 51, api.ErrMany},
	} {
		s, e := intabulate.Intabulate([][]api.Tone{steady(c.count, 67, c.length)}, lute(), hand.Standard(), 0)
		if e != c.want || e == api.OK && (len(s.Piece.Events) != 400 || piece.Check(s.Piece) != api.OK) {
			t.Errorf("Intabulate of %d tones of %d ticks: %d events, %d", c.count, c.length, len(s.Piece.Events), e)
		}
	}
}

// P0.1: what takes long if all choices are tried: courses on which all notes can be played, by hands that cannot play them together.
func TestLargest(t *testing.T) {
	dense := equalCourses(14, 60)
	for i := range dense.Courses {
		dense.Courses[i].Pitch = 67 - 2*i
	}
	var all [][]api.Tone
	for i := range api.MaxParts {
		all = append(all, steady(40, 62+i, 48))
	}
	none := hooks(1, 1, 0)
	for name, c := range map[string]struct {
		in   api.Instrument
		h    api.Hand
		most int // losses
	}{
		"one pitch, the standard hand":  {equalCourses(14, 60), hand.Standard(), 120},
		"one pitch, a wide hand":        {equalCourses(14, 60), wide(), 120},
		"one pitch, no hand":            {equalCourses(14, 60), none, 240},
		"many pitches, the usual hand":  {dense, hand.Standard(), 120},
		"many pitches, a wide hand":     {dense, wide(), 120},
		"many pitches, no barre":        {dense, hooks(4, 18, 18), 120},
		"many pitches, a stiff finger":  {dense, none, 240},
		"many pitches, nothing to jump": {dense, hooks(3, 18, 0), 240},
	} {
		t.Run(name, func(t *testing.T) {
			k := task{all, c.in, c.h, 0}
			s := k.must(t)
			if e := intabulate.Verify(all, s); e != api.OK || len(s.Losses) > c.most {
				t.Errorf("%d losses of 240 tones, %d", len(s.Losses), e)
			}
		})
	}
	six := slices.Repeat([][]api.Tone{steady(400, 67, 24)}, 6)
	s := task{six, lute(), hand.Standard(), 0}.must(t)
	_, doubled, _ := intabulate.Lost(s)
	wants(t, "doubled", doubled, intabulate.Verify(six, s), 2000)
	if text := shownEvents(s.Piece.Events); strings.Count(text, "1.0") != 400 {
		t.Errorf("six equal parts: %s", text)
	}
}
