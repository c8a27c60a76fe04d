package hand

import (
	"cmp"
	"slices"

	"theorbo/api"
)

// end is an end of a fingering behind a grip: its cost with that of the step to it, its first grip, and its number among the ends that begin with this grip.
type end struct {
	cost, grip, rank int
}

// compareEnds compares ends behind the same grip. Those that begin with the same grip and cost the same are in the order of their ranks.
func compareEnds(a, b end) int {
	return cmp.Or(cmp.Compare(a.cost, b.cost), cmp.Compare(a.grip, b.grip), cmp.Compare(a.rank, b.rank))
}

// branch has the ends behind a grip: the first ones, as far as they have been asked for, and for each grip that may come next the first of the others.
type branch struct {
	begun bool
	found []end
	open  queue[end]
}

// lister finds the fingerings of a passage in order. It finds of the ends behind each grip no more than it needs.
type lister struct {
	*passage
	least    [][]int
	branches [][]branch // first the one of the beginning, then those of the grips of each chord
}

func newLister(p *passage) *lister {
	l := &lister{passage: p, least: p.rests(), branches: [][]branch{make([]branch, 1)}}
	for _, grips := range p.grips {
		l.branches = append(l.branches, make([]branch, len(grips)))
	}
	return l
}

// end returns the end with a rank behind a grip of a chord; the chord -1 stands for the beginning.
func (l *lister) end(chord, number, rank int) (end, bool) {
	if chord == len(l.chords)-1 {
		return end{}, rank == 0
	}
	b := &l.branches[chord+1][number]
	if !b.begun {
		l.begin(b, chord, number)
	}
	for len(b.found) <= rank {
		l.follow(b, chord)
		first, ok := b.open.take()
		if !ok {
			return end{}, false
		}
		b.found = append(b.found, first)
	}
	return b.found[rank], true
}

// begin opens the cheapest end with each grip that may come next.
func (l *lister) begin(b *branch, chord, number int) {
	b.begun = true
	b.open.compare = compareEnds
	for next, cost := range l.steps(chord, number) {
		if rest := l.least[chord+1][next]; rest != stuck {
			b.open.put(end{cost + rest, next, 0})
		}
	}
}

// follow opens the end that comes after the one found last, among those that begin with the same grip.
func (l *lister) follow(b *branch, chord int) {
	if len(b.found) == 0 {
		return
	}
	last := b.found[len(b.found)-1]
	this, _ := l.end(chord+1, last.grip, last.rank)
	if next, ok := l.end(chord+1, last.grip, last.rank+1); ok {
		b.open.put(end{last.cost - this.cost + next.cost, last.grip, last.rank + 1})
	}
}

// fingering returns the fingering with a rank.
func (l *lister) fingering(rank int) (api.Fingering, bool) {
	first, ok := l.end(-1, 0, rank)
	if !ok {
		return api.Fingering{}, false
	}
	f := api.Fingering{Cost: first.cost}
	number := 0
	for i, grips := range l.grips {
		e, _ := l.end(i-1, number, rank)
		number, rank = e.grip, e.rank
		g := grips[number].Grip
		f.Grips = append(f.Grips, api.Grip{Pos: g.Pos, Fingers: slices.Clone(g.Fingers)})
	}
	return f, true
}

// first returns the first fingering of a passage.
func first(p *passage) (api.Fingering, api.Errno) {
	f, ok := newLister(p).fingering(0)
	if !ok {
		return api.Fingering{}, api.ErrStuck
	}
	return f, api.OK
}

// List returns the first fingerings in order.
func List(h api.Hand, l []api.Chord, most int) ([]api.Fingering, api.Errno) {
	p, e := survey(h, l)
	if e != api.OK {
		return nil, e
	}
	if !within(most, 1, api.MaxList) {
		return nil, api.ErrArg
	}
	finder := newLister(p)
	var fingerings []api.Fingering
	for rank := range most {
		f, ok := finder.fingering(rank)
		if !ok {
			break
		}
		fingerings = append(fingerings, f)
	}
	if len(fingerings) == 0 {
		return nil, api.ErrStuck
	}
	return fingerings, api.OK
}

// Best returns the first fingering.
func Best(h api.Hand, l []api.Chord) (api.Fingering, api.Errno) {
	p, e := survey(h, l)
	if e != api.OK {
		return api.Fingering{}, e
	}
	return first(p)
}

// Through returns the first fingering with a given grip of one chord.
func Through(h api.Hand, l []api.Chord, i int, g api.Grip) (api.Fingering, api.Errno) {
	p, e := survey(h, l)
	if e != api.OK {
		return api.Fingering{}, e
	}
	if !within(i, 0, len(l)-1) {
		return api.Fingering{}, api.ErrArg
	}
	if !fits(h, l[i], g) {
		return api.Fingering{}, api.ErrGrip
	}
	p.grips[i] = []grip{gripOf(h, l[i], g)}
	return first(p)
}
