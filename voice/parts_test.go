package voice_test

import (
	"fmt"
	"math/rand/v2"
	"slices"
	"testing"

	"theorbo/api"
	"theorbo/voice"
)

// P7.4: voices as parts.
func TestParts(t *testing.T) {
	n, _, _ := examples()
	for _, c := range []struct {
		n      []api.Note
		voices string
		count  int
		want   string
		e      api.Errno
	}{
		{n, "1 2 1", 2, "67 0 96, 69 96 192; 43 0 192", api.OK},
		{n, "1 2 2", 2, "67 0 96; 43 0 96, 69 96 192", api.OK},
		{n, "2 5 2", 5, "; 67 0 96, 69 96 192; ; ; 43 0 192", api.OK},
		{n, "2 1 2", 3, "43 0 192; 67 0 96, 69 96 192; ", api.OK},
		{nil, "", 1, "", api.OK},
		{nil, "", 3, "; ; ", api.OK},
		{n[:1], "1", 1, "67 0 96", api.OK},
		// A pause stays, and a note of which the string sounds on is cut.
		{notes("0 1 67 0 9, 2 1 60 12 99, 4 2 61 20 30, 6 1 60 50 60"), "1 1 1 1", 1, "67 0 9, 60 12 20, 61 20 30, 60 50 60", api.OK},
		{n, "1 2", 2, "", api.ErrArg},
		{n, "1 2 1 1", 2, "", api.ErrArg},
		{n, "1 2 1", 0, "", api.ErrArg},
		{n, "1 1 1", 6, "", api.ErrArg},
		{nil, "", 0, "", api.ErrArg},
		{nil, "1", 1, "", api.ErrArg},
		{n, "1 2 3", 2, "", api.ErrVoice},
		{n, "1 0 1", 2, "", api.ErrVoice},
		{n, "1 1 2", 2, "", api.ErrVoice},
		{notes("0 1 67 0 9, 0 2 67 0 9, 0 3 67 0 9"), "1 2 1", 5, "", api.ErrVoice},
		{notes("0 1 67 5 5"), "1", 9, "", api.ErrArg},
		{append(largest(), api.Note{}), "1", 9, "", api.ErrMany},
	} {
		got, e := voice.Parts(c.n, numbers(c.voices), c.count)
		if shownParts(got) != c.want || e != c.e || e == api.OK && len(got) != c.count || e != api.OK && len(got) != 0 {
			t.Errorf("Parts(%s, %d) = %s, %d; it should be %s, %d", c.voices, c.count, shownParts(got), e, c.want, c.e)
		}
	}
	for _, x := range hostile {
		if p, e := voice.Parts(n, numbers("1 2 1"), x); (e == api.OK) != (x == 2 || x == 5) || (x == 1) != (e == api.ErrVoice) || e != api.OK && len(p) > 0 {
			t.Errorf("Parts with %d = %v, %d", x, p, e)
		}
		if p, e := voice.Parts(n, []int{1, 2, x}, 5); (e == api.OK) != (x == 1 || x == 2 || x == 5) || e != api.OK && (e != api.ErrVoice || len(p) > 0) {
			t.Errorf("Parts of the voice %d = %v, %d", x, p, e)
		}
	}
}

// P7.4, P7.7: each tone of a part is a note of its voice, and ends where the next one begins.
func TestPartsOfAny(t *testing.T) {
	r := rand.New(rand.NewPCG(7, 8))
	for range 2000 {
		n := anyNotes(r, r.IntN(8), 1+r.IntN(3))
		count := 3 + r.IntN(3)
		var voices []int
		for i := range n {
			v := 1 + r.IntN(count)
			for j := i - 1; j >= 0 && n[j].Event == n[i].Event; j-- {
				if voices[j] == v {
					v, j = 1+r.IntN(count), i
				}
			}
			voices = append(voices, v)
		}
		var want [][]api.Tone
		for v := 1; v <= count; v++ {
			var p []api.Tone
			for i, note := range n {
				if voices[i] != v {
					continue
				}
				to := note.To
				if next := slices.Index(voices[i+1:], v); next >= 0 {
					to = min(to, n[i+1+next].From)
				}
				p = append(p, api.Tone{Pitch: note.Pitch, From: note.From, To: to})
			}
			want = append(want, p)
		}
		got, e := voice.Parts(n, voices, count)
		wants(t, fmt.Sprintf("Parts of %v, %v", n, voices), shownParts(got), e, shownParts(want))
		if e := voice.CheckParts(got); e != api.OK {
			t.Fatalf("Parts of %v, %v are not valid: %d", n, voices, e)
		}
	}
}

// P7.4: the tones of all parts in order.
func TestSounds(t *testing.T) {
	for text, want := range map[string]string{
		"":                                     "",
		";;":                                   "",
		"67 0 96":                              "67 0 96",
		"67 0 96, 69 96 192; 43 0 192":         "43 0 192, 67 0 96, 69 96 192",
		"67 5 96, 60 96 100; 67 5 90; 66 4 99": "66 4 99, 67 5 90, 67 5 96, 60 96 100",
		"67 5 96; 60 1 2; 67 5 96":             "60 1 2, 67 5 96, 67 5 96",
	} {
		got, e := voice.Sounds(parts(text))
		wants(t, "Sounds of "+text, shownPart(got), e, want)
	}
	for text, want := range map[string]api.Errno{"128 0 96": api.ErrPart, "128 0 96;;;;;;": api.ErrMany} {
		if got, e := voice.Sounds(parts(text)); e != want || len(got) > 0 {
			t.Errorf("Sounds of %s = %v, %d", text, got, e)
		}
	}
}

// P7.4: the lowest and the highest pitch.
func TestAmbitus(t *testing.T) {
	for _, c := range []struct {
		part      string
		low, high int
		e         api.Errno
	}{
		{"67 0 96", 67, 67, api.OK},
		{"67 0 96, 60 96 97, 70 97 98, 69 100 101", 60, 70, api.OK},
		{"0 0 96, 127 96 97", 0, 127, api.OK},
		{"127 0 96, 0 96 97", 0, 127, api.OK},
		{"", 0, 0, api.ErrNone},
		{"67 0 0", 0, 0, api.ErrPart},
	} {
		if low, high, e := voice.Ambitus(part(c.part)); low != c.low || high != c.high || e != c.e {
			t.Errorf("Ambitus of %s = %d, %d, %d", c.part, low, high, e)
		}
	}
	if _, _, e := voice.Ambitus(evenly(401, 60, 1)); e != api.ErrMany {
		t.Errorf("Ambitus of 401 tones: %d", e)
	}
}
