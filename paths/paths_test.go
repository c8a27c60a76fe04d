package paths_test

import (
	"fmt"
	"iter"
	"math/rand/v2"
	"slices"
	"testing"

	"theorbo/paths"
)

// edge is a step of a graph to be tried: where it leads, and what it costs itself.
type edge struct {
	next, cost int
}

// graph has, for each layer but the last one, and for each node of it, its steps.
type graph [][][]edge

// route is a path by the numbers of its steps.
type route struct {
	numbers []int
	cost    int
}

// anyGraph returns a graph some of whose nodes lead nowhere, and some of whose steps lead to the same node.
func anyGraph(r *rand.Rand) graph {
	g := make(graph, r.IntN(7))
	for layer := range g {
		for range 2 + r.IntN(3) {
			var edges []edge
			for range r.IntN(6) {
				edges = append(edges, edge{r.IntN(4), r.IntN(3)})
			}
			g[layer] = append(g[layer], edges)
		}
	}
	return g
}

// routes returns all paths from a node to the last layer, in the order of their steps.
func (g graph) routes(layer, node int) []route {
	if layer == len(g) {
		return []route{{}}
	}
	if node >= len(g[layer]) {
		return nil
	}
	var all []route
	for number, e := range g[layer][node] {
		for _, rest := range g.routes(layer+1, e.next) {
			all = append(all, route{append([]int{number}, rest.numbers...), e.cost + rest.cost})
		}
	}
	return all
}

// least returns the cost of the cheapest path.
func least(all []route) int {
	return slices.MinFunc(all, func(a, b route) int { return a.cost - b.cost }).cost
}

// steps goes through the steps behind which a path goes on.
func (g graph) steps(layer, node int) iter.Seq[paths.Step[int]] {
	return func(yield func(paths.Step[int]) bool) {
		for number, e := range g[layer][node] {
			rest := g.routes(layer+1, e.next)
			if len(rest) > 0 && !yield(paths.Step[int]{What: number, Next: e.next, Least: e.cost + least(rest)}) {
				return
			}
		}
	}
}

// All paths are found, the cheaper ones first, and those that cost the same in the order of their steps.
func TestPaths(t *testing.T) {
	r := rand.New(rand.NewPCG(1, 2))
	long, none := 0, 0
	for range 2000 {
		g := anyGraph(r)
		all := g.routes(0, 0)
		// They stand in the order of their steps.
		slices.SortStableFunc(all, func(a, b route) int { return a.cost - b.cost })
		f := paths.New(len(g), g.steps)
		for rank, want := range all {
			numbers, cost, ok := f.Path(rank)
			if !ok || cost != want.cost || !slices.Equal(numbers, want.numbers) {
				t.Fatalf("Path(%d) of %v = %v, %d, %v; it should be %v", rank, g, numbers, cost, ok, want)
			}
		}
		for range 2 {
			if numbers, cost, ok := f.Path(len(all)); ok || cost != 0 || len(numbers) > 0 {
				t.Fatalf("Path(%d) of %v = %v, %d; there is none", len(all), g, numbers, cost)
			}
		}
		if len(all) > 40 {
			long++
			rank := r.IntN(len(all))
			numbers, cost, _ := paths.New(len(g), g.steps).Path(rank)
			if fmt.Sprint(route{numbers, cost}) != fmt.Sprint(all[rank]) {
				t.Fatalf("Path(%d) of %v = %v, %d, asked for at first; it should be %v", rank, g, numbers, cost, all[rank])
			}
		}
		if len(all) == 0 {
			none++
		}
	}
	if long < 100 || none < 100 {
		t.Errorf("only %d with many paths, %d without", long, none)
	}
}
