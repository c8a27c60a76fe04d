package sound_test

import (
	"fmt"
	"math"
	"slices"
	"testing"

	"theorbo/api"
	"theorbo/piece"
	"theorbo/sound"
)

// P5.6: the example, fingers that stay, open strings that ring, diapasons.
func TestCourses(t *testing.T) {
	l, e := sound.Courses(lute("4 1/2h1 6/0; - 2/3; - ~; - %"))
	wants(t, "Courses of the example", l, e, "[2 -1 -1 -1 -1 0] [2 3 -1 -1 -1 0] [2 3 -1 -1 -1 0] [-1 -1 -1 -1 -1 -1]")
	// A finger that is lifted leaves a silent course, not an open one; a stop on a course that rings replaces it.
	l, e = sound.Courses(lute("4 1/0 2/5; - 3/8; - 1/1; - 1/0 3/0; - ~"))
	wants(t, "Courses of a lute", l, e, "[0 5 -1 -1 -1 -1] [0 -1 8 -1 -1 -1] [1 -1 -1 -1 -1 -1] [0 -1 0 -1 -1 -1] [0 -1 0 -1 -1 -1]")
	l, e = sound.Courses(made(standard("theorbo14"), "1 1/8 14/0; 7 7/0; - %; - 1/1"))
	wants(t, "Courses of a theorbo", l, e, "[8 -1 -1 -1 -1 -1 -1 -1 -1 -1 -1 -1 -1 0] [-1 -1 -1 -1 -1 -1 0 -1 -1 -1 -1 -1 -1 0] [-1 -1 -1 -1 -1 -1 -1 -1 -1 -1 -1 -1 -1 -1] [1 -1 -1 -1 -1 -1 -1 -1 -1 -1 -1 -1 -1 -1]")
	l, e = sound.Courses(lute(""))
	wants(t, "Courses of nothing", l, e, "")
	for _, p := range pieces() {
		times, _ := piece.Onsets(p)
		var want [][]int
		for range p.Events {
			want = append(want, slices.Repeat([]int{-1}, len(p.Instrument.Courses)))
		}
		for _, h := range listen(p) {
			for i := h.event; i < len(p.Events) && times[i] < h.to; i++ {
				want[i][h.course-1] = h.fret
			}
		}
		if l, e := sound.Courses(p); e != api.OK || !slices.EqualFunc(l, want, slices.Equal) {
			t.Fatalf("Courses of %s\n = %v, %d; it should be\n %v", shown(p), l, e, want)
		}
	}
}

// strung are the pitches of all strings of a piece that sound at a time, as the tests hear them.
func strung(p api.Piece, all []heard, at int) []int {
	var sounding [api.MaxPitch + 1]bool
	for _, h := range all {
		if h.from <= at && at < h.to {
			sounding[h.pitch] = true
			if p.Instrument.Courses[h.course-1].Octave {
				sounding[h.pitch+12] = true
			}
		}
	}
	var l []int
	for pitch, on := range sounding {
		if on {
			l = append(l, pitch)
		}
	}
	return l
}

// P5.7: the example, its first and last times, unisons, rests.
func TestAt(t *testing.T) {
	p := lute("4 1/2h1 6/0; - 2/3; - ~; - %")
	for _, c := range []struct {
		at   int
		want string
	}{{0, "43 55 69"}, {47, "43 55 69"}, {48, "43 55 65 69"}, {143, "43 55 65 69"}, {144, ""}, {191, ""}} {
		l, e := sound.At(p, c.at)
		wants(t, fmt.Sprint("At ", c.at), l, e, c.want)
	}
	// 55 is the octave string of course 6, and stands on course 5, fret 7, too; 67 is its octave string.
	l, e := sound.At(lute("4 1/0 5/7 6/0"), 20)
	wants(t, "At in unison", l, e, "43 55 67")
	for _, at := range []int{math.MinInt, -1 << 62, -1, 192, 193, 1 << 62, math.MaxInt} {
		l, e := sound.At(p, at)
		refuses(t, fmt.Sprint("At ", at), l, e, api.ErrArg)
	}
	l, e = sound.At(lute(""), 0)
	refuses(t, "At 0 of nothing", l, e, api.ErrArg)
	for _, p := range pieces() {
		all, end := listen(p), endOf(p)
		for k := range 12 {
			at := (k*end + k) / 12
			if at >= end {
				continue
			}
			l, e := sound.At(p, at)
			if want := strung(p, all, at); e != api.OK || !slices.Equal(l, want) {
				t.Fatalf("At %d of %s\n = %v, %d; it should be\n %v", at, shown(p), l, e, want)
			}
		}
	}
}

// P5.8: a new sonority wherever a string begins or ends, also with the same pitches, and nowhere else.
func TestSonorities(t *testing.T) {
	for _, c := range []struct{ columns, want string }{
		{"", ""},
		{"4 %", "{0 48 []}"},
		{"4 %; - %; 3 ~", "{0 192 []}"},
		{"4 1/2h1 6/0; - 2/3; - ~; - %", "{0 48 [43 55 69]} {48 144 [43 55 65 69]} {144 192 []}"},
		{"4 %; - 1/0; - ~; - %; - %", "{0 48 []} {48 144 [67]} {144 240 []}"},
		{"4 1/2; - 1/2", "{0 48 [69]} {48 96 [69]}"},
		{"4 1/0; - 2/5; - 3/0", "{0 48 [67]} {48 96 [67]} {96 144 [57 67]}"},
		{"4 1/2; - ~; - ~; 7t 1/0", "{0 144 [69]} {144 148 [67]}"},
		{"4 1/2; - 4/0 6/1", "{0 48 [69]} {48 96 [44 53 56 65]}"},
	} {
		l, e := sound.Sonorities(lute(c.columns))
		wants(t, "Sonorities of "+c.columns, l, e, c.want)
	}
	for _, p := range pieces() {
		all, end := listen(p), endOf(p)
		turns := map[int]bool{0: true, end: true}
		for _, h := range all {
			turns[h.from], turns[h.to] = true, true
		}
		var want []sound.Sonority
		from := 0
		for at := 1; at <= end; at++ {
			if turns[at] {
				want = append(want, sound.Sonority{From: from, To: at, Pitches: strung(p, all, from)})
				from = at
			}
		}
		if l, e := sound.Sonorities(p); e != api.OK || !slices.EqualFunc(l, want, sameSonority) {
			t.Fatalf("Sonorities of %s\n = %v, %d; it should be\n %v", shown(p), l, e, want)
		}
	}
}

func sameSonority(a, b sound.Sonority) bool {
	return a.From == b.From && a.To == b.To && slices.Equal(a.Pitches, b.Pitches)
}

// P5.12: neither the notes that begin with the event nor those that end with it.
func TestRinging(t *testing.T) {
	p := lute("4 1/2h1 4/1 6/0; - 2/3 3/0; - ~; - 2/0; - %; - 1/0")
	for event, want := range []string{
		"",
		"{0 1 69 0 144} {0 6 43 0 192}",
		"{0 1 69 0 144} {0 6 43 0 192} {1 2 65 48 144} {1 3 57 48 192}",
		"{0 6 43 0 192} {1 3 57 48 192}",
		"",
		"",
	} {
		l, e := sound.Ringing(p, event)
		wants(t, fmt.Sprint("Ringing at event ", event), l, e, want)
	}
	for _, event := range []int{math.MinInt, -1 << 62, -1, 6, 7, 400, 1 << 62, math.MaxInt} {
		l, e := sound.Ringing(p, event)
		refuses(t, fmt.Sprint("Ringing at event ", event), l, e, api.ErrArg)
	}
	l, e := sound.Ringing(lute(""), 0)
	refuses(t, "Ringing of nothing", l, e, api.ErrArg)
	for _, p := range pieces() {
		times, _ := piece.Onsets(p)
		all := listen(p)
		for event := 0; event < len(p.Events); event += 1 + len(p.Events)/20 {
			var want []api.Note
			for _, h := range all {
				if h.event < event && times[event] < h.to {
					want = append(want, h.note())
				}
			}
			if l, e := sound.Ringing(p, event); e != api.OK || !slices.Equal(l, want) {
				t.Fatalf("Ringing at event %d of %s\n = %v, %d; it should be\n %v", event, shown(p), l, e, want)
			}
		}
	}
}
