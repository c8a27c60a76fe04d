package instrument_test

import (
	"strconv"
	"testing"

	"theorbo/api"
	"theorbo/instrument"
)

var (
	letterNames = "CDEFGAB"
	bases       = []int{0, 2, 4, 5, 7, 9, 11}
	fifths      = "FCGDAEB"
)

// everySpelled calls f with every Spelled around the ranges of the fields, and with its pitch, or -1 if it is not valid.
func everySpelled(f func(s instrument.Spelled, pitch int)) {
	for letter := -2; letter <= 9; letter++ {
		for alter := -3; alter <= 3; alter++ {
			for octave := -3; octave <= 12; octave++ {
				pitch := -1
				if letter >= 0 && letter <= 6 && alter >= -1 && alter <= 1 && octave >= -1 && octave <= 9 {
					pitch = 12*(octave+1) + bases[letter] + alter
				}
				if pitch > 127 {
					pitch = -1
				}
				f(instrument.Spelled{Letter: letter, Alter: alter, Octave: octave}, pitch)
			}
		}
	}
}

// position is where a note stands on the line of fifths.
func position(s instrument.Spelled) int {
	for i := range len(fifths) {
		if fifths[i] == letterNames[s.Letter] {
			return i - 1 + 7*s.Alter
		}
	}
	panic("no such letter")
}

// P1.1
func TestSounding(t *testing.T) {
	found := 0
	everySpelled(func(s instrument.Spelled, pitch int) {
		p, e := instrument.Sounding(s)
		if pitch < 0 {
			if p != 0 || e != api.ErrPitch {
				t.Errorf("Sounding(%v) = %d, %d, and it is not valid", s, p, e)
			}
			return
		}
		found++
		if p != pitch || e != api.OK {
			t.Errorf("Sounding(%v) = %d, %d, want %d", s, p, e, pitch)
		}
	})
	// 231 in the ranges, less Cb-1 and the notes of octave 9 from G#9 on.
	if found != 231-1-7 {
		t.Errorf("%d valid notes", found)
	}
	for _, c := range []struct {
		s     instrument.Spelled
		pitch int
	}{
		{instrument.Spelled{Letter: 3, Alter: 1, Octave: 3}, 54},
		{instrument.Spelled{Octave: 4}, 60},
		{instrument.Spelled{Alter: -1, Octave: 4}, 59},
		{instrument.Spelled{Letter: 6, Alter: 1, Octave: 3}, 60},
		{instrument.Spelled{Octave: -1}, 0},
		{instrument.Spelled{Letter: 4, Octave: 9}, 127},
	} {
		if p, e := instrument.Sounding(c.s); p != c.pitch || e != api.OK {
			t.Errorf("Sounding(%v) = %d, %d, want %d", c.s, p, e, c.pitch)
		}
	}
}

// P1.1: no sum may overflow into the range of pitches.
func TestSoundingOfAnyNumbers(t *testing.T) {
	for _, n := range hostile {
		for _, s := range []instrument.Spelled{{Letter: n, Octave: 4}, {Alter: n, Octave: 4}, {Octave: n}, {Letter: n, Alter: n, Octave: n}} {
			ok := s.Letter >= 0 && s.Letter <= 6 && s.Alter >= -1 && s.Alter <= 1 && s.Octave >= -1 && s.Octave <= 9
			p, e := instrument.Sounding(s)
			if ok && e != api.OK || !ok && (p != 0 || e != api.ErrPitch) {
				t.Errorf("Sounding(%v) = %d, %d", s, p, e)
			}
		}
	}
}

// P1.2
func TestSpell(t *testing.T) {
	type request struct{ pitch, key int }
	want := map[request][]instrument.Spelled{}
	everySpelled(func(s instrument.Spelled, pitch int) {
		if pitch < 0 {
			return
		}
		for key := -4; key <= 4; key++ {
			if at := position(s); at >= key-3 && at <= key+8 {
				r := request{pitch, key}
				want[r] = append(want[r], s)
			}
		}
	})
	for pitch := range 128 {
		for key := -4; key <= 4; key++ {
			s, e := instrument.Spell(pitch, key)
			l := want[request{pitch, key}]
			if pitch == 0 && key == 4 {
				if len(l) != 0 || e != api.ErrPitch || s != (instrument.Spelled{}) {
					t.Errorf("Spell(0, 4) = %v, %d", s, e)
				}
				continue
			}
			if len(l) != 1 || s != l[0] || e != api.OK {
				t.Errorf("Spell(%d, %d) = %v, %d, want %v", pitch, key, s, e, l)
			}
		}
	}
}

// P1.2: the names of an octave in the outermost keys and in the middle.
func TestSpellNames(t *testing.T) {
	for key, names := range map[int][12]string{
		-4: {"C4", "Db4", "D4", "Eb4", "E4", "F4", "Gb4", "G4", "Ab4", "A4", "Bb4", "Cb5"},
		0:  {"C4", "C#4", "D4", "Eb4", "E4", "F4", "F#4", "G4", "G#4", "A4", "Bb4", "B4"},
		4:  {"B#3", "C#4", "D4", "D#4", "E4", "E#4", "F#4", "G4", "G#4", "A4", "A#4", "B4"},
	} {
		for i, name := range names {
			s, e := instrument.Spell(60+i, key)
			n, f := instrument.Name(s)
			if n != name || e != api.OK || f != api.OK {
				t.Errorf("Spell(%d, %d) is %q, %d, %d, want %q", 60+i, key, n, e, f, name)
			}
		}
	}
}

// P1.2: the errors and their order.
func TestSpellErrors(t *testing.T) {
	for _, p := range hostile {
		for _, key := range append([]int{-5, -4, 4, 5}, hostile...) {
			want := api.OK
			if p < 0 || p > 127 {
				want = api.ErrPitch
			} else if key < -4 || key > 4 {
				want = api.ErrArg
			} else if p == 0 && key == 4 {
				want = api.ErrPitch
			}
			s, e := instrument.Spell(p, key)
			if e != want || e != api.OK && s != (instrument.Spelled{}) {
				t.Errorf("Spell(%d, %d) = %v, %d, want %d", p, key, s, e, want)
			}
		}
	}
}

// P1.3
func TestName(t *testing.T) {
	signs := map[int]string{-1: "b", 0: "", 1: "#"}
	everySpelled(func(s instrument.Spelled, pitch int) {
		n, e := instrument.Name(s)
		if pitch < 0 {
			if n != "" || e != api.ErrPitch {
				t.Errorf("Name(%v) = %q, %d, and it is not valid", s, n, e)
			}
			return
		}
		if want := letterNames[s.Letter:s.Letter+1] + signs[s.Alter] + strconv.Itoa(s.Octave); n != want || e != api.OK {
			t.Errorf("Name(%v) = %q, %d, want %q", s, n, e, want)
		}
	})
	for want, s := range map[string]instrument.Spelled{
		"C-1": {Octave: -1},
		"G9":  {Letter: 4, Octave: 9},
		"Bb3": {Letter: 6, Alter: -1, Octave: 3},
		"F#0": {Letter: 3, Alter: 1},
	} {
		if n, e := instrument.Name(s); n != want || e != api.OK {
			t.Errorf("Name(%v) = %q, %d, want %q", s, n, e, want)
		}
	}
	for _, n := range hostile {
		s := instrument.Spelled{Letter: n, Alter: n, Octave: n}
		if name, e := instrument.Name(s); n != 0 && n != 1 && n != -1 && (name != "" || e != api.ErrPitch) {
			t.Errorf("Name(%v) = %q, %d", s, name, e)
		}
	}
}

// P1.4
func TestParseName(t *testing.T) {
	for name, want := range map[string]instrument.Spelled{
		"C4":   {Octave: 4},
		"C-1":  {Octave: -1},
		"C#-1": {Alter: 1, Octave: -1},
		"B#9":  {},
		"Bb3":  {Letter: 6, Alter: -1, Octave: 3},
		"A0":   {Letter: 5},
		"G9":   {Letter: 4, Octave: 9},
		"Cb4":  {Alter: -1, Octave: 4},
		"E#3":  {Letter: 2, Alter: 1, Octave: 3},
		"D2":   {Letter: 1, Octave: 2},
		"F#3":  {Letter: 3, Alter: 1, Octave: 3},
	} {
		s, e := instrument.ParseName(name)
		if name == "B#9" {
			if s != want || e != api.ErrPitch {
				t.Errorf("ParseName(%q) = %v, %d", name, s, e)
			}
		} else if s != want || e != api.OK {
			t.Errorf("ParseName(%q) = %v, %d, want %v", name, s, e, want)
		}
	}
}

// P1.4: every text of two or three signs, and longer ones, against the form.
func TestParseNameForms(t *testing.T) {
	octaves := map[string]int{"-1": -1}
	for i := range 10 {
		octaves[strconv.Itoa(i)] = i
	}
	names := map[string]instrument.Spelled{}
	for i, l := range letterNames {
		for sign, alter := range map[string]int{"b": -1, "": 0, "#": 1} {
			for o, octave := range octaves {
				names[string(l)+sign+o] = instrument.Spelled{Letter: i, Alter: alter, Octave: octave}
			}
		}
	}
	texts := []string{"", "C10", "C##4", "Cbb4", "C#b4", "Cb#4", "Cx4", "C--1", "C-2", "C-0", "C+1", "C01", "C4 ", " C4", "C4\n", "H4", "c4", "bb4", "C 4", "C-1-1", "C-10", "C11", "C♯4", "Ｃ4", "C４", "C4\x00", "CC4", "4C", "C4#", "C#", "C-", "Cb", "C", "B♭3"}
	const signs = "ABCDEFGHabcg#b-0123456789+/ :\n\x00\xff"
	for i := range len(signs) {
		for j := range len(signs) {
			two := signs[i:i+1] + signs[j:j+1]
			texts = append(texts, two, two+"1", two+"-1")
			for k := range len(signs) {
				texts = append(texts, two+signs[k:k+1])
			}
		}
	}
	for _, text := range texts {
		s, e := instrument.ParseName(text)
		want, ok := names[text]
		if !ok {
			if s != (instrument.Spelled{}) || e != api.ErrForm {
				t.Errorf("ParseName(%q) = %v, %d, want ErrForm", text, s, e)
			}
		} else if _, f := instrument.Sounding(want); f != api.OK {
			if s != (instrument.Spelled{}) || e != api.ErrPitch {
				t.Errorf("ParseName(%q) = %v, %d, want ErrPitch", text, s, e)
			}
		} else if s != want || e != api.OK {
			t.Errorf("ParseName(%q) = %v, %d, want %v", text, s, e, want)
		}
	}
}

// P1.4: the texts that have the form and name no valid note.
func TestParseNameErrors(t *testing.T) {
	for name, want := range map[string]api.Errno{
		"Cb-1": api.ErrPitch, "G#9": api.ErrPitch, "Ab9": api.ErrPitch, "A9": api.ErrPitch, "B#9": api.ErrPitch, "Bb9": api.ErrPitch,
		"H4": api.ErrForm, "C10": api.ErrForm, "": api.ErrForm, "Cb-2": api.ErrForm, "G#10": api.ErrForm,
		"Gb9": api.OK, "B#-1": api.OK, "C-1": api.OK,
	} {
		s, e := instrument.ParseName(name)
		if e != want || e != api.OK && s != (instrument.Spelled{}) {
			t.Errorf("ParseName(%q) = %v, %d, want %d", name, s, e, want)
		}
	}
}

// P1.18, of notes
func TestNotesThereAndBack(t *testing.T) {
	for p := range 128 {
		for key := -4; key <= 4; key++ {
			s, e := instrument.Spell(p, key)
			if e != api.OK {
				continue
			}
			if q, e := instrument.Sounding(s); q != p || e != api.OK {
				t.Errorf("Sounding(Spell(%d, %d)) = %d, %d", p, key, q, e)
			}
		}
	}
	everySpelled(func(s instrument.Spelled, pitch int) {
		if pitch < 0 {
			return
		}
		n, e := instrument.Name(s)
		back, f := instrument.ParseName(n)
		if back != s || e != api.OK || f != api.OK {
			t.Errorf("ParseName(Name(%v)) = %v, %d, %d", s, back, e, f)
		}
		if again, e := instrument.Name(back); again != n || e != api.OK {
			t.Errorf("Name(ParseName(%q)) = %q, %d", n, again, e)
		}
	})
}
