package hand

import "theorbo/api"

// Prove returns the least costs from each grip on.
func Prove(h api.Hand, l []api.Chord) ([][]int, api.Errno) {
	p, e := survey(h, l)
	if e != api.OK {
		return nil, e
	}
	return p.rests(), api.OK
}

// Proves reports whether a table proves that no fingering costs less than cost.
func Proves(h api.Hand, l []api.Chord, table [][]int, cost int) (bool, api.Errno) {
	p, e := survey(h, l)
	if e != api.OK {
		return false, e
	}
	if !p.matches(table) {
		return false, api.OK
	}
	if len(table) == 0 {
		return cost <= 0, api.OK
	}
	for _, bound := range table[0] {
		if bound != stuck && bound < cost {
			return false, api.OK
		}
	}
	return p.bounds(table), api.OK
}

// matches reports whether a table has an element that may be a bound for each grip of each chord.
func (p *passage) matches(table [][]int) bool {
	if len(table) != len(p.chords) {
		return false
	}
	for i, row := range table {
		if len(row) != len(p.grips[i]) {
			return false
		}
		for _, bound := range row {
			if bound < stuck {
				return false
			}
		}
	}
	return true
}

// bounds reports whether each element of a table that matches is a lower bound if those of the next row are.
func (p *passage) bounds(table [][]int) bool {
	for chord, row := range table {
		for number, bound := range row {
			if !p.bounded(table, chord, number, bound) {
				return false
			}
		}
	}
	return true
}

func (p *passage) bounded(table [][]int, chord, number, bound int) bool {
	own := p.grips[chord][number].own
	if chord == len(table)-1 {
		return bound != stuck && bound <= own
	}
	for next, cost := range p.steps(chord, number) {
		rest := table[chord+1][next]
		if rest == stuck {
			continue
		}
		// The sum of any bound and a cost may overflow, the difference of two bounds cannot.
		if bound == stuck || bound-rest > own+cost {
			return false
		}
	}
	return true
}
