package hand

import (
	"iter"
	"slices"

	"theorbo/api"
	"theorbo/ints"
	"theorbo/paths"
)

// lister finds the fingerings of a passage in order.
type lister struct {
	*passage
	*paths.Finder[int]
	least [][]int
}

func newLister(p *passage) *lister {
	l := &lister{passage: p, least: p.rests()}
	l.Finder = paths.New(len(p.chords), l.begin)
	return l
}

// begin goes through the grips of a chord with which fingerings go on, behind a grip of the chord before. (Before the first chord there is where the fingers come from.)
func (l *lister) begin(chord, before int) iter.Seq[paths.Step[int]] {
	return func(yield func(paths.Step[int]) bool) {
		for next, cost := range l.steps(chord-1, before) {
			rest := l.least[chord][next]
			if rest != stuck && !yield(paths.Step[int]{What: next, Next: next, Least: cost + rest}) {
				return
			}
		}
	}
}

// fingering returns the fingering with a rank.
func (l *lister) fingering(rank int) (api.Fingering, bool) {
	numbers, cost, ok := l.Path(rank)
	if !ok {
		return api.Fingering{}, false
	}
	f := api.Fingering{Cost: cost}
	for i, number := range numbers {
		g := l.grips[i][number].Grip
		f.Grips = append(f.Grips, api.Grip{Pos: g.Pos, Fingers: slices.Clone(g.Fingers)})
	}
	return f, true
}

// first returns the first fingering of a passage.
func first(p *passage) (api.Fingering, api.Errno) {
	f, ok := newLister(p).fingering(0)
	if !ok {
		return api.Fingering{}, api.ErrStuck
	}
	return f, api.OK
}

// List returns the first fingerings in order.
func List(h api.Hand, l []api.Chord, most int) ([]api.Fingering, api.Errno) {
	p, e := survey(h, l)
	if e != api.OK {
		return nil, e
	}
	if !ints.Within(most, 1, api.MaxList) {
		return nil, api.ErrArg
	}
	finder := newLister(p)
	var fingerings []api.Fingering
	for rank := range most {
		f, ok := finder.fingering(rank)
		if !ok {
			break
		}
		fingerings = append(fingerings, f)
	}
	if len(fingerings) == 0 {
		return nil, api.ErrStuck
	}
	return fingerings, api.OK
}

// Best returns the first fingering.
func Best(h api.Hand, l []api.Chord) (api.Fingering, api.Errno) {
	p, e := survey(h, l)
	if e != api.OK {
		return api.Fingering{}, e
	}
	return first(p)
}

// Through returns the first fingering with a given grip of one chord.
func Through(h api.Hand, l []api.Chord, i int, g api.Grip) (api.Fingering, api.Errno) {
	p, e := survey(h, l)
	if e != api.OK {
		return api.Fingering{}, e
	}
	if !ints.Within(i, 0, len(l)-1) {
		return api.Fingering{}, api.ErrArg
	}
	if !fits(h, l[i], g) {
		return api.Fingering{}, api.ErrGrip
	}
	p.grips[i] = []grip{gripOf(h, l[i], g)}
	return first(p)
}
