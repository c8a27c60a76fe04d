package leaf

import (
	"strconv"
	"strings"

	"theorbo/api"
	"theorbo/instrument"
	"theorbo/lists"
)

// The words and letters of a text.
const (
	lineEnd    = "\n"
	space      = " "
	plainWord  = "." // of a column that is no tie, and has no bar line before it
	barMark    = "|"
	tieMark    = "~"
	between    = "/"
	dotMark    = "."
	threeMark  = "t"
	noNoteWord = "-"
)

// Format returns a leaf as text.
func Format(f api.Leaf) (string, api.Errno) {
	if e := Check(f); e != api.OK {
		return "", e
	}
	first, _ := instrument.Format(f.Instrument)
	lines := []string{first}
	for _, c := range f.Columns {
		lines = append(lines, formatColumn(c))
	}
	text := strings.Join(lines, lineEnd) + lineEnd
	if len(text) > api.MaxText {
		return "", api.ErrMany
	}
	return text, api.OK
}

func formatColumn(c api.Column) string {
	words := []string{formatKind(c.Bar, c.Tie), formatAll(c.Signs, formatSign)}
	for _, cell := range c.Cells {
		words = append(words, formatAll(cell, formatNumber))
	}
	return strings.Join(words, space)
}

func formatKind(bar, tie bool) string {
	word := ""
	if bar {
		word += barMark
	}
	if tie {
		word += tieMark
	}
	if word == "" {
		return plainWord
	}
	return word
}

// formatAll returns the elements of a list as a word.
func formatAll[T any](list []T, format func(T) string) string {
	return strings.Join(lists.Changed(list, format), between)
}

func formatSign(s api.Sign) string {
	word := strconv.Itoa(s.Value)
	if s.Dot {
		word += dotMark
	}
	if s.Three {
		word += threeMark
	}
	return word
}

func formatNumber(number int) string {
	if number == noNote {
		return noNoteWord
	}
	return strconv.Itoa(number)
}

// Parse is the inverse of Format.
func Parse(s string) (f api.Leaf, e api.Errno) {
	defer func() {
		if fault, ok := recover().(api.Errno); ok {
			f, e = api.Leaf{}, fault
		}
	}()
	return parse(s), api.OK
}

// require panics with an error unless something is so.
func require(so bool, e api.Errno) {
	if !so {
		panic(e)
	}
}

func parse(s string) api.Leaf {
	require(len(s) <= api.MaxText, api.ErrMany)
	first, rest, ended := strings.Cut(s, lineEnd)
	require(ended, api.ErrForm)
	in, e := instrument.Parse(first)
	require(e == api.OK, e)
	f := api.Leaf{Instrument: in}
	for line := range strings.Lines(rest) {
		f.Columns = append(f.Columns, parseColumn(strings.TrimSuffix(line, lineEnd)))
	}
	// A leaf that is not valid, or anything in another form, would be written otherwise.
	text, _ := Format(f)
	require(text == s, api.ErrForm)
	return f
}

func parseColumn(line string) api.Column {
	words := strings.Split(line, space)
	require(len(words) > 1, api.ErrForm)
	return api.Column{
		Bar:   strings.HasPrefix(words[0], barMark),
		Tie:   strings.HasSuffix(words[0], tieMark),
		Signs: parseAll(words[1], parseSign),
		Cells: lists.Changed(words[2:], func(word string) []int { return parseAll(word, parseNumber) }),
	}
}

// parseAll is the inverse of formatAll.
func parseAll[T any](word string, parse func(string) T) []T {
	return lists.Changed(strings.Split(word, between), parse)
}

func parseSign(word string) api.Sign {
	word, three := strings.CutSuffix(word, threeMark)
	word, dot := strings.CutSuffix(word, dotMark)
	return api.Sign{Value: parseDecimal(word), Dot: dot, Three: three}
}

func parseNumber(word string) int {
	if word == noNoteWord {
		return noNote
	}
	return parseDecimal(word)
}

func parseDecimal(word string) int {
	n, err := strconv.Atoi(word)
	require(err == nil, api.ErrForm)
	return n
}
