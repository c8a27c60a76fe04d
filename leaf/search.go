package leaf

import (
	"unicode/utf8"

	"theorbo/api"
	"theorbo/lists"
	"theorbo/piece"
)

// search finds the allowed completions of a leaf. Of the rules that of the measures looks at the signs alone, and the others look at the notes alone. So the signs and the notes have a web each, and a situation is one of the signs together with one of the notes.
type search struct {
	player
	leaf     api.Leaf
	rules    api.Rules
	second   int       // the number of the column with which the second measure begins
	readings [][]notes // of each column, those that the rule of the concords allows
	signWeb  web
	noteWeb  web
	times    *layer // the situations of the signs behind the webs: the ticks since the last bar line
	postures *layer // the situations of the notes behind the webs
}

// layer numbers the situations behind a column in the order in which they are found. They are written as texts of runes.
type layer struct {
	last    bool // nothing depends on the situations behind the last column: they are all one
	numbers map[string]int16
	texts   []string
}

func newSearch(f api.Leaf, r api.Rules) *search {
	fingers := player{r.Hand, map[notes]gripping{}}
	s := &search{player: fingers, leaf: f, rules: r, times: newLayer(false), postures: newLayer(false)}
	for number, c := range f.Columns {
		if number > 0 && c.Bar {
			s.second = number
			break
		}
	}
	s.times.number(timeText(0))
	s.postures.number(posture{frets: silence()}.text())
	return s
}

func newLayer(last bool) *layer {
	return &layer{last: last, numbers: map[string]int16{}}
}

// number returns the number of a situation.
func (l *layer) number(text string) int16 {
	if l.last {
		text = ""
	}
	number, known := l.numbers[text]
	if !known {
		number = int16(len(l.texts))
		l.numbers[text] = number
		l.texts = append(l.texts, text)
	}
	return number
}

// timeText writes ticks as a text.
func timeText(ticks int) string {
	return string(rune(ticks))
}

// timeOf is the inverse of timeText.
func timeOf(text string) int {
	ticks, _ := utf8.DecodeRuneInString(text)
	return int(ticks)
}

// explore finds the webs. At the first column with an error it stops, and returns the number of the column.
func (s *search) explore() (at int, e api.Errno) {
	for column := range s.leaf.Columns {
		if e := s.extend(column); e != api.OK {
			return column, e
		}
	}
	return 0, api.OK
}

// extend extends the webs by a column.
func (s *search) extend(column int) api.Errno {
	if choices(s.leaf.Columns[column]) > api.MaxChoices {
		return api.ErrMany
	}
	last := column == len(s.leaf.Columns)-1
	s.extendSigns(column, newLayer(last))
	if len(s.times.texts) == 0 {
		return api.ErrNoReading
	}
	if e := s.extendNotes(column, newLayer(last)); e != api.OK {
		return e
	}
	if len(s.postures.texts) == 0 {
		return api.ErrNoReading
	}
	if len(s.times.texts)*len(s.postures.texts) > api.MaxStates {
		return api.ErrMany
	}
	return api.OK
}

// extendSigns extends the web of the signs; behind is the layer that it fills.
func (s *search) extendSigns(column int, behind *layer) {
	var steps [][]int16
	for _, text := range s.times.texts {
		before := timeOf(text)
		steps = append(steps, lists.Changed(s.leaf.Columns[column].Signs, func(sign api.Sign) int16 {
			ticks, allowed := s.ticks(column, before, sign)
			if !allowed {
				return nowhere
			}
			return behind.number(timeText(ticks))
		}))
	}
	s.signWeb = append(s.signWeb, steps)
	s.times = behind
}

// ticks returns the ticks from the last bar line to the end of a column, and whether the rule of the measures allows them. If there is no such rule they are always 0.
func (s *search) ticks(column, before int, sign api.Sign) (ticks int, allowed bool) {
	measure := s.rules.Measure
	if measure == 0 {
		return 0, true
	}
	if s.leaf.Columns[column].Bar {
		if column > s.second && before < measure {
			return 0, false
		}
		before = 0
	}
	ticks = before + piece.Ticks(sign)
	return ticks, ticks <= measure
}

// extendNotes extends the web of the notes; behind is the layer that it fills.
func (s *search) extendNotes(column int, behind *layer) api.Errno {
	c := s.leaf.Columns[column]
	var list []notes
	for n := range readings(c) {
		if concordant(s.rules, s.leaf.Instrument, n.stops()) {
			list = append(list, n)
		}
	}
	shared := map[outlook][]int16{}
	var steps [][]int16
	for _, text := range s.postures.texts {
		before := postureOf(text)
		if c.Tie {
			steps = append(steps, []int16{behind.number(s.stay(before).text())})
			continue
		}
		o := s.outlook(before)
		moves, known := shared[o]
		if !known {
			var e api.Errno
			if moves, e = s.moves(o, list, behind); e != api.OK {
				return e
			}
			shared[o] = moves
		}
		steps = append(steps, moves)
	}
	s.readings = append(s.readings, list)
	s.noteWeb = append(s.noteWeb, steps)
	s.postures = behind
	return api.OK
}

// moves returns where these notes lead. The error is ErrMany for too many grips, or for too many situations.
func (s *search) moves(o outlook, list []notes, behind *layer) ([]int16, api.Errno) {
	moves := make([]int16, len(list))
	for i, n := range list {
		next, e := s.play(o, n)
		if e != api.OK {
			return nil, e
		}
		moves[i] = nowhere
		if len(next.grips) > 0 {
			moves[i] = behind.number(next.text())
		}
		if len(behind.texts) > api.MaxStates {
			return nil, api.ErrMany
		}
	}
	return moves, api.OK
}
