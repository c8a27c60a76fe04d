package piece_test

import (
	"fmt"
	"math/rand/v2"
	"slices"
	"testing"

	"theorbo/api"
	"theorbo/piece"
)

// maker is a call that returns a piece.
type maker struct {
	name string
	call func(p api.Piece) (api.Piece, api.Errno)
}

// makers are all functions that return a piece, with arguments of all kinds.
func makers() []maker {
	l := []maker{
		{"Plain", piece.Plain}, {"Terse", piece.Terse}, {"Bare", piece.Bare}, {"Join", piece.Join},
		{"Append twice", func(p api.Piece) (api.Piece, api.Errno) { return piece.Append(p, p) }},
		{"Append to nothing", func(p api.Piece) (api.Piece, api.Errno) {
			return piece.Append(api.Piece{Instrument: p.Instrument}, p)
		}},
		{"Append nothing", func(p api.Piece) (api.Piece, api.Errno) {
			return piece.Append(p, api.Piece{Instrument: p.Instrument})
		}},
		{"Cut all", func(p api.Piece) (api.Piece, api.Errno) { return piece.Cut(p, 0, len(p.Events)) }},
		{"Cut the middle", func(p api.Piece) (api.Piece, api.Errno) {
			return piece.Cut(p, len(p.Events)/3, len(p.Events)-len(p.Events)/3)
		}},
		{"Cut nothing", func(p api.Piece) (api.Piece, api.Errno) { return piece.Cut(p, 0, 0) }},
	}
	for _, bar := range []int{4, 12, 36, 72, 96, 120, 576, 4608} {
		l = append(l, maker{fmt.Sprint("Break by ", bar), func(p api.Piece) (api.Piece, api.Errno) { return piece.Break(p, bar) }})
	}
	for _, by := range []int{-3, -1, 0, 1, 2, 6} {
		l = append(l, maker{fmt.Sprint("Augment by ", by), func(p api.Piece) (api.Piece, api.Errno) { return piece.Augment(p, by) }})
	}
	return l
}

// P2.15
func TestPlainAndTerse(t *testing.T) {
	must := func(p api.Piece, e api.Errno) api.Piece {
		t.Helper()
		if e != api.OK {
			t.Fatalf("error %d", e)
		}
		return p
	}
	for _, p := range pieces(t) {
		plain, terse, bare := must(piece.Plain(p)), must(piece.Terse(p)), must(piece.Bare(p))
		if !piece.Alike(plain, p) || !piece.Alike(terse, p) || !piece.Alike(bare, p) {
			t.Fatalf("not alike %s", shown(p))
		}
		if !piece.Same(must(piece.Plain(terse)), plain) || !piece.Same(must(piece.Terse(plain)), terse) {
			t.Fatalf("Plain and Terse of %s", shown(p))
		}
	}
}

// P2.16
func TestBreakMeasures(t *testing.T) {
	for _, p := range pieces(t) {
		onsets, _ := piece.Onsets(p)
		for _, bar := range []int{6, 12, 18, 48, 72, 96, 144, 192, 288, 4608} {
			q, e := piece.Break(p, bar)
			if e != api.OK {
				continue
			}
			times, e := piece.Onsets(q)
			if e != api.OK || times[len(times)-1] != onsets[len(onsets)-1] {
				t.Fatalf("Break(%s, %d) ends at another time: %s", shown(p), bar, shown(q))
			}
			for _, at := range onsets {
				if !slices.Contains(times, at) {
					t.Fatalf("Break(%s, %d): nothing begins at %d: %s", shown(p), bar, at, shown(q))
				}
			}
			measures, _ := piece.Measures(q)
			for i, m := range measures {
				if m.Ticks > bar || m.Ticks < bar && i < len(measures)-1 {
					t.Fatalf("Break(%s, %d): measure %d has %d ticks", shown(p), bar, i, m.Ticks)
				}
			}
		}
	}
}

// P2.17
func TestCutAndAppend(t *testing.T) {
	for _, p := range pieces(t) {
		n := len(p.Events)
		for k := 0; k <= n; k += 1 + n/20 {
			head, e := piece.Cut(p, 0, k)
			tail, f := piece.Cut(p, k, n)
			q, g := piece.Append(head, tail)
			if e != api.OK || f != api.OK || g != api.OK {
				t.Fatalf("cut at %d and joined: %d, %d, %d: %s", k, e, f, g, shown(p))
			}
			if len(q.Events) != n || sum(durations(q)) != sum(durations(p)) {
				t.Fatalf("cut at %d and joined, %s is %s", k, shown(p), shown(q))
			}
			for i, ev := range q.Events {
				if !slices.EqualFunc(ev.Stops, p.Events[i].Stops, func(a, b api.Stop) bool { return a.Course == b.Course && a.Fret == b.Fret }) {
					t.Fatalf("cut at %d and joined, event %d of %s is %s", k, i, shown(p), shown(q))
				}
			}
		}
	}
}

// P2.18
func TestResultsAreValid(t *testing.T) {
	all := pieces(t)
	for _, m := range makers() {
		returned := 0
		for _, p := range all {
			q, e := m.call(p)
			if e != api.OK {
				continue
			}
			returned++
			if f := piece.Check(q); f != api.OK {
				t.Fatalf("%s of %s is not valid (%d): %s", m.name, shown(p), f, shown(q))
			}
		}
		if returned < 5 {
			t.Errorf("%s: %d results", m.name, returned)
		}
	}
}

// R4: no argument is changed, and no result shares memory with an argument, with another result or within itself.
func TestMemory(t *testing.T) {
	some := pieces(t)[:40]
	for _, m := range makers() {
		for _, p := range some {
			arg := roomy(p)
			before := whole(arg)
			first, e := m.call(arg)
			second, _ := m.call(arg)
			if whole(arg) != before {
				t.Fatalf("%s has changed its argument %s", m.name, shown(p))
			}
			if e != api.OK {
				continue
			}
			kept := shown(second)
			if shown(first) != kept {
				t.Fatalf("%s of %s: two results differ", m.name, shown(p))
			}
			scribble(t, m.name, first)
			if whole(arg) != before {
				t.Fatalf("%s of %s shares memory with its argument", m.name, shown(p))
			}
			if shown(second) != kept {
				t.Fatalf("%s of %s: two results share memory", m.name, shown(p))
			}
		}
	}
	a, b := roomy(made("4 1/2h1", "- ~", "- %")), roomy(made("5 2/0", "- %"))
	before := whole(a) + whole(b)
	q, _ := piece.Append(a, b)
	scribble(t, "Append", q)
	if whole(a)+whole(b) != before {
		t.Error("Append shares memory with its arguments")
	}
}

// R4: lists of times and measures are the caller's own, and the functions that return none leave their arguments as they are.
func TestListsAreNew(t *testing.T) {
	for _, p := range pieces(t)[:60] {
		arg := roomy(p)
		before := whole(arg)
		piece.Check(arg)
		piece.Longest(arg, 0, 1)
		piece.Same(arg, arg)
		piece.Alike(arg, arg)
		onsets, _ := piece.Onsets(arg)
		measures, _ := piece.Measures(arg)
		kept, keptMeasures := slices.Clone(onsets), slices.Clone(measures)
		clear(onsets[:cap(onsets)])
		clear(measures[:cap(measures)])
		onsets, _ = piece.Onsets(arg)
		measures, _ = piece.Measures(arg)
		if !slices.Equal(onsets, kept) || !slices.Equal(measures, keptMeasures) || whole(arg) != before {
			t.Fatalf("lists of %s are shared", shown(p))
		}
	}
}

// R3: nil and empty lists are the same.
func TestNilAndEmpty(t *testing.T) {
	p := made("4 %", "- ~", "- 1/0")
	q := copied(p)
	p.Events[0].Stops, p.Events[1].Stops = nil, nil
	q.Events[0].Stops, q.Events[1].Stops = []api.Stop{}, []api.Stop{}
	for _, m := range makers() {
		a, e := m.call(p)
		b, f := m.call(q)
		if e != f || shown(a) != shown(b) {
			t.Errorf("%s: %s, %d and %s, %d", m.name, shown(a), e, shown(b), f)
		}
	}
	empty := made()
	empty.Events = []api.Event{}
	empty.Instrument = api.Instrument{Courses: []api.Course{{}}, Steps: []int{}}
	if e := piece.Check(empty); e != api.OK {
		t.Errorf("a piece without events and steps: %d", e)
	}
}

// hostilePiece returns a piece of hostile numbers.
func hostilePiece(r *rand.Rand) api.Piece {
	one := func() int { return hostile[r.IntN(len(hostile))] }
	p := random(r, r.IntN(6))
	if r.IntN(6) == 0 {
		p.Instrument.Courses = append(p.Instrument.Courses, api.Course{Pitch: one(), Frets: one(), Octave: true})
		p.Instrument.Steps = append(p.Instrument.Steps, one())
	}
	for i := range p.Events {
		ev := &p.Events[i]
		switch r.IntN(4) {
		case 0:
			ev.Sign = api.Sign{Value: one(), Dot: r.IntN(2) == 0, Three: r.IntN(2) == 0}
		case 1:
			ev.Stops = append(ev.Stops, api.Stop{Course: one(), Fret: one(), Right: one(), Grace: one(), Hold: one()})
		case 2:
			ev.Tie = true
		}
		for j := range ev.Stops {
			if r.IntN(3) == 0 {
				ev.Stops[j].Hold = one()
			}
		}
	}
	return p
}

// P0.1, R2, R5: every call ends, and with an error returns nothing else.
func TestHostile(t *testing.T) {
	r := rand.New(rand.NewPCG(5, 6))
	for range 4000 {
		p, other := hostilePiece(r), hostilePiece(r)
		fault := piece.Check(p)
		for _, m := range makers() {
			q, e := m.call(p)
			if e != api.OK && !isZero(q) || fault != api.OK && e != fault {
				t.Fatalf("%s of %s: %d, want %d: %s", m.name, shown(p), e, fault, shown(q))
			}
		}
		a, b := hostile[r.IntN(len(hostile))], hostile[r.IntN(len(hostile))]
		piece.Longest(p, a, b)
		for _, call := range []func() (api.Piece, api.Errno){
			func() (api.Piece, api.Errno) { return piece.Break(p, a) },
			func() (api.Piece, api.Errno) { return piece.Augment(p, a) },
			func() (api.Piece, api.Errno) { return piece.Cut(p, a, b) },
			func() (api.Piece, api.Errno) { return piece.Append(p, other) },
		} {
			if q, e := call(); e != api.OK && !isZero(q) || fault != api.OK && e != fault {
				t.Fatalf("%s with %d, %d: %d, want %d: %s", shown(p), a, b, e, fault, shown(q))
			}
		}
		if l, e := piece.Onsets(p); e != fault || e != api.OK && len(l) > 0 {
			t.Fatalf("Onsets(%s) = %v, %d", shown(p), l, e)
		}
		if l, e := piece.Measures(p); e != fault || e != api.OK && len(l) > 0 {
			t.Fatalf("Measures(%s) = %v, %d", shown(p), l, e)
		}
		if piece.Same(p, other) != (shown(p) == shown(other)) || piece.Alike(p, other) && fault != api.OK {
			t.Fatalf("Same or Alike of %s and %s", shown(p), shown(other))
		}
	}
}
