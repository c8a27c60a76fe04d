package notation

import (
	"slices"
	"strings"

	"theorbo/api"
	"theorbo/piece"
)

const (
	timeLetters = "-BSMCQXD" // by the values from 0 on
	dotMark     = "."
	threeMark   = "3"
)

// Time returns the time word of a sign.
func Time(sys api.System, s api.Sign) (string, api.Errno) {
	way, ok := systemOf(sys)
	if !ok {
		return "", api.ErrSystem
	}
	if !validSign(s) {
		return "", api.ErrSign
	}
	if slices.ContainsFunc(signNeeds(s), way.lacks) {
		return "", api.ErrCannot
	}
	return timeWord(s), api.OK
}

func written(s api.Sign) bool {
	return s != api.Sign{}
}

func validSign(s api.Sign) bool {
	return !written(s) || piece.Ticks(s) > 0
}

// signNeeds returns what a valid sign has that a system may lack.
func signNeeds(s api.Sign) []int {
	switch {
	case s.Three:
		return []int{api.LackThree}
	case !written(s):
		return []int{api.LackSign}
	}
	return nil
}

// timeWord returns the time word of a valid sign.
func timeWord(s api.Sign) string {
	word := at(timeLetters, s.Value)
	if s.Dot {
		word += dotMark
	}
	if s.Three {
		word += threeMark
	}
	return word
}

// ParseTime returns the sign of a time word.
func ParseTime(sys api.System, t string) (api.Sign, api.Errno) {
	way, ok := systemOf(sys)
	if !ok {
		return api.Sign{}, api.ErrSystem
	}
	s, ok := readTime(way, t)
	if !ok {
		return api.Sign{}, api.ErrForm
	}
	return s, api.OK
}

func readTime(way system, t string) (api.Sign, bool) {
	letter, dot := strings.CutSuffix(t, dotMark)
	letter, three := strings.CutSuffix(letter, threeMark)
	s := api.Sign{Value: strings.Index(timeLetters, letter), Dot: dot, Three: three}
	// A text that is no time word gives a sign that is not valid, or one with another word.
	if !validSign(s) || slices.ContainsFunc(signNeeds(s), way.lacks) || timeWord(s) != t {
		return api.Sign{}, false
	}
	return s, true
}
