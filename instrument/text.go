package instrument

import (
	"slices"
	"strconv"
	"strings"

	"theorbo/api"
)

const (
	stepsMark  = ":" // the word between the courses and the steps
	fretsMark  = "/"
	octaveMark = "+"
	maxDigits  = 3
)

// Format returns an instrument as text.
func Format(in api.Instrument) (string, api.Errno) {
	if e := Check(in); e != api.OK {
		return "", e
	}
	var words []string
	for _, c := range in.Courses {
		words = append(words, formatCourse(c))
	}
	words = append(words, stepsMark)
	for _, s := range in.Steps {
		words = append(words, strconv.Itoa(s))
	}
	return strings.Join(words, " "), api.OK
}

func formatCourse(c api.Course) string {
	// In this key every pitch has a name: neither call can fail.
	s, _ := Spell(c.Pitch, 0)
	name, _ := Name(s)
	word := name + fretsMark + strconv.Itoa(c.Frets)
	if c.Octave {
		word += octaveMark
	}
	return word
}

// Parse reads an instrument from text.
func Parse(t string) (api.Instrument, api.Errno) {
	words := strings.Split(t, " ")
	mark := slices.Index(words, stepsMark)
	if mark < 0 {
		return api.Instrument{}, api.ErrForm
	}
	var in api.Instrument
	for _, w := range words[:mark] {
		c, e := parseCourse(w)
		if e != api.OK {
			return api.Instrument{}, e
		}
		in.Courses = append(in.Courses, c)
	}
	for _, w := range words[mark+1:] {
		s, ok := parseNumber(w)
		if !ok {
			return api.Instrument{}, api.ErrForm
		}
		in.Steps = append(in.Steps, s)
	}
	if e := Check(in); e != api.OK {
		return api.Instrument{}, e
	}
	return in, api.OK
}

func parseCourse(word string) (api.Course, api.Errno) {
	name, rest, found := strings.Cut(word, fretsMark)
	number, octave := strings.CutSuffix(rest, octaveMark)
	frets, ok := parseNumber(number)
	// The form of the whole word comes before the pitch of its name.
	if !found || !ok {
		return api.Course{}, api.ErrForm
	}
	s, e := ParseName(name)
	if e != api.OK {
		return api.Course{}, e
	}
	pitch, e := Sounding(s)
	return api.Course{Pitch: pitch, Frets: frets, Octave: octave}, e
}

func parseNumber(t string) (int, bool) {
	if len(t) < 1 || len(t) > maxDigits || t[0] == '0' && t != "0" {
		return 0, false
	}
	number := 0
	for i := range len(t) {
		if t[i] < '0' || t[i] > '9' {
			return 0, false
		}
		number = 10*number + int(t[i]-'0')
	}
	return number, true
}
