package leaf

import (
	"iter"
	"math"

	"theorbo/api"
	"theorbo/lists"
)

// nowhere is where a choice leads that is not allowed.
const nowhere = -1

// web shows where the choices of each column lead: from each situation before it, and for each choice, to the situation behind it that has this number, or nowhere. There is one situation before the first column, and one behind the last one. Situations may share their lists.
type web [][][]int16

// steps goes through the choices of a column in a situation that lead somewhere, and the situations to which they lead.
func (w web) steps(column, from int) iter.Seq2[int, int] {
	return func(yield func(choice, next int) bool) {
		for choice, next := range w[column][from] {
			if next != nowhere && !yield(choice, int(next)) {
				return
			}
		}
	}
}

// situations returns how many situations there are before a column, or behind the last one.
func (w web) situations(column int) int {
	if column == len(w) {
		return 1
	}
	return len(w[column])
}

// count returns how many ways lead from the beginning to the end, and MaxCount if there are MaxCount or more.
func (w web) count() int {
	ways := []int{1}
	for column := range w {
		behind := make([]int, w.situations(column+1))
		for from, count := range ways {
			for _, next := range w.steps(column, from) {
				behind[next] = min(behind[next]+count, api.MaxCount)
			}
		}
		ways = behind
	}
	return ways[0]
}

// prune leaves out the choices from which no way leads to the end.
func (w web) prune() {
	for column := len(w) - 2; column >= 0; column-- {
		blind := lists.Changed(w[column+1], isBlind)
		for _, moves := range w[column] {
			for choice, next := range moves {
				if next != nowhere && blind[next] {
					moves[choice] = nowhere
				}
			}
		}
	}
}

// isBlind reports whether all choices lead nowhere.
func isBlind(moves []int16) bool {
	for _, next := range moves {
		if next != nowhere {
			return false
		}
	}
	return true
}

// cheapest returns the choices of the first of the cheapest ways, and what it costs. The web is to be pruned.
func (w web) cheapest(costs [][]int) (way []int, cost int) {
	rests := w.rests(costs)
	from := 0
	for column := range w {
		for choice, next := range w.steps(column, from) {
			if costs[column][choice]+rests[column+1][next] == rests[column][from] {
				way = append(way, choice)
				from = next
				break
			}
		}
	}
	return way, rests[0][0]
}

// rests returns for each situation before each column, and behind the last one, what the cheapest way from there to the end costs. Where there is none the number means nothing.
func (w web) rests(costs [][]int) [][]int {
	rows := make([][]int, len(w)+1)
	rows[len(w)] = []int{0}
	for column := len(w) - 1; column >= 0; column-- {
		rows[column] = make([]int, len(w[column]))
		for from := range w[column] {
			least := math.MaxInt
			for choice, next := range w.steps(column, from) {
				least = min(least, costs[column][choice]+rows[column+1][next])
			}
			rows[column][from] = least
		}
	}
	return rows
}
