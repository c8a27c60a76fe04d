package sound_test

import (
	"slices"
	"testing"

	"theorbo/api"
	"theorbo/sound"
)

// stays are pieces whose notes end for all reasons: each with the times of its notes and why they end.
var stays = []struct {
	columns string
	want    [][3]int // from, to, cause
}{
	{"", nil},
	{"4 %", nil},
	// A finger stays for its event alone; it is lifted, or its course is played again, or there is a rest, or the end.
	{"4 1/2; - 2/2", [][3]int{{0, 48, 3}, {48, 96, 4}}},
	{"4 1/2; - 1/2", [][3]int{{0, 48, 1}, {48, 96, 4}}},
	{"4 1/2; - %", [][3]int{{0, 48, 2}}},
	{"4 1/2", [][3]int{{0, 48, 4}}},
	// It stays for ties that follow at once, however many, and not for those behind another event.
	{"4 1/2; - ~", [][3]int{{0, 96, 4}}},
	{"4 1/2; - ~; | - ~; - 2/2; - ~", [][3]int{{0, 144, 3}, {144, 240, 4}}},
	{"4 1/2; - 2/2; - ~; - 2/1", [][3]int{{0, 48, 3}, {48, 144, 1}, {144, 192, 4}}},
	{"4 1/2; - %; - ~; - ~", [][3]int{{0, 48, 2}}},
	{"4 1/2; - ~; - %; - ~", [][3]int{{0, 96, 2}}},
	// A hold counts chords and ties; the ties behind the last held event belong to the stay.
	{"4 1/2h1; - 2/2; - 3/2", [][3]int{{0, 96, 3}, {48, 96, 3}, {96, 144, 4}}},
	{"4 1/2h1; - 2/2; - ~; - 3/2", [][3]int{{0, 144, 3}, {48, 144, 3}, {144, 192, 4}}},
	{"4 1/2h1; - ~; - ~; - 3/2; - ~", [][3]int{{0, 144, 3}, {144, 240, 4}}},
	{"4 1/2h2; - ~; - 2/2; - 3/2", [][3]int{{0, 144, 3}, {96, 144, 3}, {144, 192, 4}}},
	{"4 1/2h2; - 2/2; - 2/1; - ~; - ~; - 1/0", [][3]int{{0, 240, 1}, {48, 96, 1}, {96, 240, 3}, {240, 288, 4}}},
	{"4 1/2h1; - 2/2; - 3/2; - ~", [][3]int{{0, 96, 3}, {48, 96, 3}, {96, 192, 4}}},
	{"4 1/2h1; - 2/2; - %", [][3]int{{0, 96, 2}, {48, 96, 2}}},
	{"4 1/2h1; - 2/2; - 1/2", [][3]int{{0, 96, 1}, {48, 96, 3}, {96, 144, 4}}},
	// An open string rings on over chords and ties.
	{"4 1/0; - 2/2; - ~; - 3/2", [][3]int{{0, 192, 4}, {48, 144, 3}, {144, 192, 4}}},
	{"4 1/0; - 2/2; - 1/0; - ~", [][3]int{{0, 96, 1}, {48, 96, 3}, {96, 192, 4}}},
	{"4 1/0; - 1/3; - 2/0", [][3]int{{0, 48, 1}, {48, 96, 3}, {96, 144, 4}}},
	{"4 1/0; - 2/0; - %; - 3/0", [][3]int{{0, 96, 2}, {48, 96, 2}, {144, 192, 4}}},
	{"4 1/0; - ~; - %; - ~; - 1/0", [][3]int{{0, 96, 2}, {192, 240, 4}}},
	// What is on other courses of the same event does not matter.
	{"4 1/0 2/2 3/2h1; - 4/0 6/5; 3. 3/0 4/5", [][3]int{{0, 240, 4}, {0, 48, 3}, {0, 96, 1}, {48, 96, 1}, {48, 96, 3}, {96, 240, 4}, {96, 240, 4}}},
}

// P5.1, P5.2, P5.5: stays and ringing strings, ended for all reasons.
func TestStays(t *testing.T) {
	for _, c := range stays {
		notes, e := sound.Notes(lute(c.columns))
		causes, f := sound.Causes(lute(c.columns))
		presses, g := sound.Presses(lute(c.columns))
		if e != api.OK || f != api.OK || g != api.OK || len(notes) != len(c.want) || len(causes) != len(c.want) {
			t.Fatalf("%s: %v, %v, errors %d, %d, %d", c.columns, notes, causes, e, f, g)
		}
		stopped := 0
		for i, st := range stopsOf(lute(c.columns)) {
			if got := [3]int{notes[i].From, notes[i].To, causes[i]}; got != c.want[i] {
				t.Errorf("%s: note %d is %v, it should be %v", c.columns, i, got, c.want[i])
			}
			if st.Fret == 0 {
				continue
			}
			if stopped == len(presses) {
				t.Fatalf("%s: the presses are %v", c.columns, presses)
			}
			want := sound.Press{Event: notes[i].Event, Course: st.Course, Fret: st.Fret, From: c.want[i][0], To: c.want[i][1]}
			if presses[stopped] != want {
				t.Errorf("%s: press %v, it should be %v", c.columns, presses[stopped], want)
			}
			stopped++
		}
		if stopped != len(presses) {
			t.Errorf("%s: the presses are %v", c.columns, presses)
		}
	}
}

func stopsOf(p api.Piece) []api.Stop {
	var l []api.Stop
	for _, ev := range p.Events {
		l = append(l, ev.Stops...)
	}
	return l
}

// The longest hold, with ties behind it.
func TestLongestStay(t *testing.T) {
	columns := "4 1/2h15; "
	for range 15 {
		columns += "- 2/1; "
	}
	presses, e := sound.Presses(lute(columns + "- ~; - ~; - 2/0"))
	if e != api.OK || len(presses) != 16 || presses[0] != (sound.Press{Event: 0, Course: 1, Fret: 2, From: 0, To: 18 * 48}) || presses[15].To != 18*48 {
		t.Errorf("%v, %d", presses, e)
	}
}

// P5.1: the example, the order, and no press for an open string.
func TestPresses(t *testing.T) {
	l, e := sound.Presses(lute("4 1/2h1 6/0; - 2/3; - ~; - %"))
	wants(t, "Presses of the example", l, e, "{0 1 2 0 144} {1 2 3 48 144}")
	l, e = sound.Presses(lute("4 1/0 2/5 4/1 6/8; 5 1/8 2/0"))
	wants(t, "Presses in order", l, e, "{0 2 5 0 48} {0 4 1 0 48} {0 6 8 0 48} {1 1 8 48 72}")
	l, e = sound.Presses(lute("4 1/0; - 2/0 3/0; - ~; - %"))
	wants(t, "Presses of open strings", l, e, "")
	for _, p := range pieces() {
		var want []sound.Press
		for _, h := range listen(p) {
			if h.fret > 0 {
				want = append(want, sound.Press{Event: h.event, Course: h.course, Fret: h.fret, From: h.from, To: h.to})
			}
		}
		if l, e := sound.Presses(p); e != api.OK || !slices.Equal(l, want) {
			t.Fatalf("Presses of %s\n = %v, %d; it should be\n %v", shown(p), l, e, want)
		}
	}
}

// P5.2: the example, frets that are no semitones, the highest and the lowest pitch.
func TestNotes(t *testing.T) {
	l, e := sound.Notes(lute("4 1/2h1 6/0; - 2/3; - ~; - %"))
	wants(t, "Notes of the example", l, e, "{0 1 69 0 144} {0 6 43 0 144} {1 2 65 48 144}")
	l, e = sound.Notes(made(standard("cittern4"), "5t 1/9 4/1; 1. 3/5"))
	wants(t, "Notes on a cittern", l, e, "{0 1 76 0 16} {0 4 61 0 16} {1 3 62 16 592}")
	l, e = sound.Notes(api.Piece{Instrument: api.Instrument{Courses: []api.Course{{}, {Pitch: 126, Frets: 1}}, Steps: []int{1}}, Events: lute("7t 1/0 2/1").Events})
	wants(t, "Notes at the ends", l, e, "{0 1 0 0 4} {0 2 127 0 4}")
	for _, p := range pieces() {
		var want []api.Note
		for _, h := range listen(p) {
			want = append(want, h.note())
		}
		if l, e := sound.Notes(p); e != api.OK || !slices.Equal(l, want) {
			t.Fatalf("Notes of %s\n = %v, %d; it should be\n %v", shown(p), l, e, want)
		}
	}
}

// P5.3: an octave string behind the note of each course that has one, whether it is stopped or open.
func TestStrings(t *testing.T) {
	l, e := sound.Strings(lute("4 1/2h1 6/0; - 4/3; - ~; - %"))
	wants(t, "Strings", l, e, "{0 1 69 0 144} {0 6 43 0 144} {0 6 55 0 144} {1 4 56 48 144} {1 4 68 48 144}")
	for _, p := range pieces() {
		var want []api.Note
		for _, h := range listen(p) {
			want = append(want, h.note())
			if p.Instrument.Courses[h.course-1].Octave {
				h.pitch += 12
				want = append(want, h.note())
			}
		}
		if l, e := sound.Strings(p); e != api.OK || !slices.Equal(l, want) {
			t.Fatalf("Strings of %s\n = %v, %d; it should be\n %v", shown(p), l, e, want)
		}
	}
}

// P5.4: sorted by From, then by Pitch, then by To; equal ones stand as often as they occur; no octave strings.
func TestTones(t *testing.T) {
	l, e := sound.Tones(lute("4 1/1; - 1/3"))
	wants(t, "Tones of F", l, e, "{68 0 48} {70 48 96}")
	l, e = sound.Tones(lute("4 1/0 2/2 6/0; - ~; - 1/2; - 3/0"))
	wants(t, "Tones of a chord", l, e, "{43 0 192} {64 0 96} {67 0 96} {69 96 144} {57 144 192}")
	// 60 is played on four courses at once.
	unison := api.Instrument{Courses: []api.Course{{Pitch: 60}, {Pitch: 59, Frets: 1}, {Pitch: 60}, {Pitch: 58, Frets: 2}, {Pitch: 61}}, Steps: []int{1, 2}}
	l, e = sound.Tones(made(unison, "4 1/0 2/1 3/0 4/2h1 5/0; - 2/0; - 5/0"))
	wants(t, "Tones in unison", l, e, "{60 0 48} {60 0 96} {60 0 144} {60 0 144} {61 0 96} {59 48 144} {61 96 144}")
	for _, p := range pieces() {
		var want []api.Tone
		for _, h := range listen(p) {
			tone := api.Tone{Pitch: h.pitch, From: h.from, To: h.to}
			at := 0
			for at < len(want) && !before(tone, want[at]) {
				at++
			}
			want = slices.Insert(want, at, tone)
		}
		if l, e := sound.Tones(p); e != api.OK || !slices.Equal(l, want) {
			t.Fatalf("Tones of %s\n = %v, %d; it should be\n %v", shown(p), l, e, want)
		}
	}
}

// before reports whether a tone stands before another one.
func before(a, b api.Tone) bool {
	if a.From != b.From {
		return a.From < b.From
	}
	if a.Pitch != b.Pitch {
		return a.Pitch < b.Pitch
	}
	return a.To < b.To
}

// P5.5: the example; of several causes the first one: the end, a stop on the course, a rest, a lifted finger.
func TestCauses(t *testing.T) {
	l, e := sound.Causes(lute("4 1/2h1 6/0; - 2/3; - ~; - %"))
	wants(t, "Causes of the example", l, e, "2 2 2")
	l, e = sound.Causes(lute("4 1/2 2/2 3/0 4/0; - 1/0 3/2 5/1h1; - ~; - 1/1; - %; - 6/0; - 6/1; - ~"))
	wants(t, "Causes", l, e, "1 3 1 2 1 3 3 2 1 4")
	for _, p := range pieces() {
		var want []int
		for _, h := range listen(p) {
			want = append(want, h.cause)
		}
		if l, e := sound.Causes(p); e != api.OK || !slices.Equal(l, want) {
			t.Fatalf("Causes of %s\n = %v, %d; it should be\n %v", shown(p), l, e, want)
		}
	}
}

// P5.11: the notes that begin with the event, not those that still sound, and no octave strings; -1 without stops.
func TestMelodyAndGround(t *testing.T) {
	p := lute("4 1/2h1 6/0; - 4/3; - ~; - %; - 3/0 4/7 6/8; - 6/0")
	l, e := sound.Melody(p)
	wants(t, "Melody", l, e, "69 56 -1 -1 60 43")
	l, e = sound.Ground(p)
	wants(t, "Ground", l, e, "43 56 -1 -1 51 43")
	// The first course need not have the highest pitch, nor the last one the lowest.
	p = made(standard("guitar5"), "4 1/0 2/8 4/0 5/0; - 4/8 5/8; - 3/0 4/0 5/0")
	l, e = sound.Melody(p)
	wants(t, "Melody on a guitar", l, e, "67 70 62")
	l, e = sound.Ground(p)
	wants(t, "Ground on a guitar", l, e, "57 65 55")
	// The lowest pitch of all is a pitch.
	p = api.Piece{Instrument: api.Instrument{Courses: []api.Course{{Pitch: 127}, {}}}, Events: lute("4 1/0 2/0; - 2/0").Events}
	l, e = sound.Melody(p)
	wants(t, "Melody at the ends", l, e, "127 0")
	l, e = sound.Ground(p)
	wants(t, "Ground at the ends", l, e, "0 0")
	for _, p := range pieces() {
		high, low := slices.Repeat([]int{-1}, len(p.Events)), slices.Repeat([]int{-1}, len(p.Events))
		for _, h := range listen(p) {
			high[h.event] = max(high[h.event], h.pitch)
			if low[h.event] < 0 || h.pitch < low[h.event] {
				low[h.event] = h.pitch
			}
		}
		melody, e := sound.Melody(p)
		ground, f := sound.Ground(p)
		if e != api.OK || f != api.OK || !slices.Equal(melody, high) || !slices.Equal(ground, low) {
			t.Fatalf("Melody and Ground of %s\n = %v, %d and %v, %d; they should be\n %v and %v", shown(p), melody, e, ground, f, high, low)
		}
	}
}
