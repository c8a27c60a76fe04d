package instrument

import (
	"strconv"
	"strings"

	"theorbo/api"
)

// Spelled is a note of the staff.
type Spelled struct {
	Letter, Alter, Octave int
}

// The letters of notes, as Spelled counts them.
const (
	letterC = iota
	letterD
	letterE
	letterF
	letterG
	letterA
	letterB
)

const (
	flat        = -1
	sharp       = 1
	firstOctave = -1
	lastOctave  = 9
	semitones   = 12

	lastKey     = 4
	sharpFifths = 7 // how far a sharp moves a note along the line of fifths
	fifthsBelow = 3 // how far the notes of a key reach on both sides of it
	fifthsAbove = 8
)

// letter is what a letter stands for: its name, its semitones above C and its position on the line of fifths.
type letter struct {
	name        string
	base, fifth int
}

var letters = [...]letter{
	letterC: {"C", 0, 0},
	letterD: {"D", 2, 2},
	letterE: {"E", 4, 4},
	letterF: {"F", 5, -1},
	letterG: {"G", 7, 1},
	letterA: {"A", 9, 3},
	letterB: {"B", 11, 5},
}

func isPitch(p int) bool {
	return p >= 0 && p <= api.MaxPitch
}

// Sounding returns the pitch of a spelled note.
func Sounding(s Spelled) (int, api.Errno) {
	if !inRanges(s) {
		return 0, api.ErrPitch
	}
	p := semitones*(s.Octave+1) + letters[s.Letter].base + s.Alter
	if !isPitch(p) {
		return 0, api.ErrPitch
	}
	return p, api.OK
}

func inRanges(s Spelled) bool {
	return s.Letter >= letterC && s.Letter <= letterB &&
		s.Alter >= flat && s.Alter <= sharp &&
		s.Octave >= firstOctave && s.Octave <= lastOctave
}

// Spell returns the spelled note of a pitch in a key.
func Spell(p, key int) (Spelled, api.Errno) {
	if !isPitch(p) {
		return Spelled{}, api.ErrPitch
	}
	if key < -lastKey || key > lastKey {
		return Spelled{}, api.ErrArg
	}
	for i, l := range letters {
		for alter := flat; alter <= sharp; alter++ {
			position := l.fifth + sharpFifths*alter
			if position < key-fifthsBelow || position > key+fifthsAbove {
				continue
			}
			// The division is exact only for the letter that is sought; Sounding tells it from the others.
			s := Spelled{i, alter, (p-l.base-alter)/semitones - 1}
			if q, e := Sounding(s); e == api.OK && q == p {
				return s, api.OK
			}
		}
	}
	return Spelled{}, api.ErrPitch
}

// Name returns the name of a spelled note.
func Name(s Spelled) (string, api.Errno) {
	if _, e := Sounding(s); e != api.OK {
		return "", e
	}
	return letters[s.Letter].name + alterName(s.Alter) + strconv.Itoa(s.Octave), api.OK
}

func alterName(alter int) string {
	switch alter {
	case flat:
		return "b"
	case sharp:
		return "#"
	}
	return ""
}

// ParseName returns the spelled note with a name.
func ParseName(t string) (Spelled, api.Errno) {
	s, ok := readName(t)
	if !ok {
		return Spelled{}, api.ErrForm
	}
	if _, e := Sounding(s); e != api.OK {
		return Spelled{}, e
	}
	return s, api.OK
}

// readName looks at the form alone: the note need not be valid.
func readName(t string) (Spelled, bool) {
	for i, l := range letters {
		if rest, ok := strings.CutPrefix(t, l.name); ok {
			alter, rest := readAlter(rest)
			octave, ok := readOctave(rest)
			return Spelled{i, alter, octave}, ok
		}
	}
	return Spelled{}, false
}

func readAlter(t string) (alter int, rest string) {
	for _, alter := range []int{flat, sharp} {
		if rest, ok := strings.CutPrefix(t, alterName(alter)); ok {
			return alter, rest
		}
	}
	return 0, t
}

func readOctave(t string) (int, bool) {
	if t == "-1" {
		return firstOctave, true
	}
	if len(t) != 1 || t[0] < '0' || t[0] > '9' {
		return 0, false
	}
	return int(t[0] - '0'), true
}
