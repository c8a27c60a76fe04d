package hand

import (
	"iter"

	"theorbo/api"
)

// stuck stands for the cost from a grip on from which no fingering goes on to the end.
const stuck = -1

// passage is a sequence of chords with the grips that fit each of them, and so the steps between these.
type passage struct {
	hand   api.Hand
	chords []api.Chord
	grips  [][]grip
}

// survey returns the passage of a sequence of chords.
func survey(h api.Hand, l []api.Chord) (*passage, api.Errno) {
	if e := check(h, l); e != api.OK {
		return nil, e
	}
	p := &passage{hand: h, chords: l, grips: make([][]grip, len(l))}
	for i, c := range l {
		all, e := fitting(h, c)
		if e != api.OK {
			return nil, e
		}
		for _, g := range all {
			p.grips[i] = append(p.grips[i], gripOf(h, c, g))
		}
	}
	return p, api.OK
}

// steps goes through the grips of the next chord to which there is a step from a grip, with the costs of the steps. The chord -1 stands for where the fingers come from: from there each grip of the first chord is reached at no cost.
func (p *passage) steps(chord, number int) iter.Seq2[int, int] {
	return func(yield func(next, cost int) bool) {
		held := coursesOf(p.chords[chord+1].Held)
		for next := range p.grips[chord+1] {
			cost, possible := 0, true
			if chord >= 0 {
				cost, possible = step(&p.hand, &p.grips[chord][number], &p.grips[chord+1][next], held)
			}
			if possible && !yield(next, cost) {
				return
			}
		}
	}
}

// rests returns for each grip of each chord the least cost of a fingering that begins with it and goes on to the end, or stuck.
func (p *passage) rests() [][]int {
	rows := make([][]int, len(p.chords))
	for chord := len(rows) - 1; chord >= 0; chord-- {
		rows[chord] = make([]int, len(p.grips[chord]))
		for number, g := range p.grips[chord] {
			rest := p.behind(rows, chord, number)
			if rest != stuck {
				rest += g.own
			}
			rows[chord][number] = rest
		}
	}
	return rows
}

// behind returns the least cost of what comes after a grip, by the rests of the next chord.
func (p *passage) behind(rests [][]int, chord, number int) int {
	if chord == len(p.chords)-1 {
		return 0
	}
	least := stuck
	for next, cost := range p.steps(chord, number) {
		rest := rests[chord+1][next]
		if rest != stuck && (least == stuck || cost+rest < least) {
			least = cost + rest
		}
	}
	return least
}

// ways returns, for the beginning and then for each chord, how many fingerings up to there end with each grip; at most MaxCount of each.
func (p *passage) ways() [][]int {
	rows := [][]int{{1}}
	for i := range p.chords {
		row := make([]int, len(p.grips[i]))
		for number, count := range rows[i] {
			if count == 0 {
				continue
			}
			for next := range p.steps(i-1, number) {
				row[next] = min(row[next]+count, api.MaxCount)
			}
		}
		rows = append(rows, row)
	}
	return rows
}

func sum(row []int) int {
	total := 0
	for _, n := range row {
		total += n
	}
	return total
}

// Count returns how many fingerings there are.
func Count(h api.Hand, l []api.Chord) (int, api.Errno) {
	p, e := survey(h, l)
	if e != api.OK {
		return 0, e
	}
	return min(sum(p.ways()[len(l)]), api.MaxCount), api.OK
}

// Block returns the shortest passage without a fingering.
func Block(h api.Hand, l []api.Chord) (from, to int, e api.Errno) {
	p, e := survey(h, l)
	if e != api.OK {
		return 0, 0, e
	}
	ways := p.ways()
	for to < len(l) && sum(ways[to+1]) > 0 {
		to++
	}
	if to == len(l) {
		return 0, 0, api.ErrNone
	}
	part := &passage{hand: h, chords: l[:to+1], grips: p.grips[:to+1]}
	rests := part.rests()
	from = to
	for !allStuck(rests[from]) {
		from--
	}
	return from, to, api.OK
}

func allStuck(rests []int) bool {
	for _, rest := range rests {
		if rest != stuck {
			return false
		}
	}
	return true
}
