// Package paths finds the paths through a graph in the order of their costs. The nodes of the graph stand in layers, and each step leads to the next layer.
package paths

import (
	"cmp"
	"iter"

	"theorbo/lists"
)

// Step is a step from a node: what it is, the node of the next layer to which it leads, and the cost of the cheapest path that begins with it and goes on to the last layer.
type Step[S any] struct {
	What        S
	Next, Least int
}

// Finder finds the paths from the node 0 of the first layer to the last layer. It finds of those behind each node no more than it needs.
type Finder[S any] struct {
	last     int
	steps    func(layer, node int) iter.Seq[Step[S]]
	branches map[[2]int]*branch[S]
}

// path is a path behind a node: its cost, its first step with the number of that, and its rank among the paths that begin with this step.
type path[S any] struct {
	cost, number int
	step         Step[S]
	rank         int
}

// branch has the paths behind a node: the first ones, as far as they have been asked for, and for each step the first of the others.
type branch[S any] struct {
	found []path[S]
	open  lists.Shelf[path[S]]
}

// New returns a finder for a graph with the layers from 0 to last. For each node before the last layer steps goes through its steps, in order, as far as a path goes on behind them.
func New[S any](last int, steps func(layer, node int) iter.Seq[Step[S]]) *Finder[S] {
	return &Finder[S]{last: last, steps: steps, branches: map[[2]int]*branch[S]{}}
}

// Path returns the steps of the path with a rank, and its cost. The rank 0 is that of the cheapest path; of those with the same cost the one whose first different step comes first has the lower rank.
func (f *Finder[S]) Path(rank int) (steps []S, cost int, ok bool) {
	first, ok := f.behind(0, 0, rank)
	if !ok {
		return nil, 0, false
	}
	node := 0
	for layer := range f.last {
		p, _ := f.behind(layer, node, rank)
		steps = append(steps, p.step.What)
		node, rank = p.step.Next, p.rank
	}
	return steps, first.cost, true
}

// behind returns the path with a rank behind a node.
func (f *Finder[S]) behind(layer, node, rank int) (path[S], bool) {
	if layer == f.last {
		return path[S]{}, rank == 0
	}
	b := f.branch(layer, node)
	for len(b.found) <= rank {
		f.follow(b, layer)
		first, ok := b.open.TakeFirst()
		if !ok {
			return path[S]{}, false
		}
		b.found = append(b.found, first)
	}
	return b.found[rank], true
}

// branch returns the branch of a node, at first with the cheapest path for each step.
func (f *Finder[S]) branch(layer, node int) *branch[S] {
	key := [2]int{layer, node}
	if b := f.branches[key]; b != nil {
		return b
	}
	b := &branch[S]{open: lists.NewShelf(comparePaths[S])}
	f.branches[key] = b
	number := 0
	for s := range f.steps(layer, node) {
		b.open.Put(path[S]{cost: s.Least, number: number, step: s})
		number++
	}
	return b
}

// comparePaths compares paths behind the same node. Those that begin with the same step and cost the same are in the order of their ranks.
func comparePaths[S any](a, b path[S]) int {
	return cmp.Or(cmp.Compare(a.cost, b.cost), cmp.Compare(a.number, b.number), cmp.Compare(a.rank, b.rank))
}

// follow opens the path that comes after the one found last, among those that begin with the same step.
func (f *Finder[S]) follow(b *branch[S], layer int) {
	if len(b.found) == 0 {
		return
	}
	p := b.found[len(b.found)-1]
	this, _ := f.behind(layer+1, p.step.Next, p.rank)
	next, ok := f.behind(layer+1, p.step.Next, p.rank+1)
	if ok {
		p.cost += next.cost - this.cost
		p.rank++
		b.open.Put(p)
	}
}
