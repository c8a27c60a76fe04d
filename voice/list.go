package voice

import (
	"iter"

	"theorbo/api"
	"theorbo/ints"
	"theorbo/paths"
)

// stuck stands for the cost behind a situation from which no assignment goes on to the end.
const stuck = -1

// lister finds the assignments of a search in order.
type lister struct {
	*search
	*paths.Finder[situation]
	least [][]int
}

func newLister(s *search) *lister {
	l := &lister{search: s, least: s.rests()}
	l.Finder = paths.New(len(s.events), l.begin)
	return l
}

// steps goes through the moves of an event in a situation, given by its number, with the numbers of the situations to which they lead.
func (s *search) steps(number, from int) iter.Seq2[int, move] {
	return func(yield func(int, move) bool) {
		for m := range s.moves(number, s.layers[number].situations[from]) {
			next := s.layers[number+1].numbers[s.found(number+1, m.last)]
			if !yield(next, m) {
				return
			}
		}
	}
}

// rests returns for each situation of each layer the least cost of what comes behind it, or stuck.
func (s *search) rests() [][]int {
	rows := make([][]int, len(s.layers))
	rows[len(s.events)] = []int{0}
	for number := len(s.events) - 1; number >= 0; number-- {
		row := make([]int, len(s.layers[number].situations))
		for from := range row {
			row[from] = stuck
			for next, m := range s.steps(number, from) {
				rest := rows[number+1][next]
				if rest != stuck && (row[from] == stuck || m.cost+rest < row[from]) {
					row[from] = m.cost + rest
				}
			}
		}
		rows[number] = row
	}
	return rows
}

// begin goes through the moves with which assignments go on from a situation to the end.
func (l *lister) begin(number, from int) iter.Seq[paths.Step[situation]] {
	return func(yield func(paths.Step[situation]) bool) {
		for next, m := range l.steps(number, from) {
			rest := l.least[number+1][next]
			if rest != stuck && !yield(paths.Step[situation]{What: m.last, Next: next, Least: m.cost + rest}) {
				return
			}
		}
	}
}

// assignment returns the assignment with a rank.
func (l *lister) assignment(rank int) (api.Voicing, bool) {
	lasts, cost, ok := l.Path(rank)
	if !ok {
		return api.Voicing{}, false
	}
	voices := make([]int, len(l.notes))
	for number, last := range lasts {
		l.assigned(number, last, voices)
	}
	return voicing(voices, cost), true
}

// List returns the first valid assignments in order.
func List(l api.Limits, notes []api.Note, most int) ([]api.Voicing, api.Errno) {
	if e := check(l, notes); e != api.OK {
		return nil, e
	}
	if !ints.Within(most, 1, api.MaxList) {
		return nil, api.ErrArg
	}
	s := newSearch(l, notes)
	if _, e := s.explore(); e != api.OK {
		return nil, e
	}
	finder := newLister(s)
	var all []api.Voicing
	for rank := range most {
		v, ok := finder.assignment(rank)
		if !ok {
			break
		}
		all = append(all, v)
	}
	return all, api.OK
}

// Best returns the first valid assignment.
func Best(l api.Limits, notes []api.Note) (api.Voicing, api.Errno) {
	all, e := List(l, notes, 1)
	if e != api.OK {
		return api.Voicing{}, e
	}
	return all[0], api.OK
}
