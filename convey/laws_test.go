package convey_test

import (
	"fmt"
	"slices"
	"strings"
	"testing"

	"theorbo/api"
	"theorbo/convey"
	"theorbo/instrument"
	"theorbo/piece"
)

// maker is a call that returns a piece.
type maker struct {
	name string
	call func(p api.Piece) result
}

// makers are all functions that return a piece, with arguments with which they change much or nothing.
func makers() []maker {
	l := []maker{
		{"Fit to the same", func(p api.Piece) result { return of(convey.Fit(p, p.Instrument, 0)) }},
		{"Fit to guitar4", func(p api.Piece) result { return of(convey.Fit(p, standard("guitar4"), 5)) }},
	}
	for _, sys := range systems {
		l = append(l, maker{fmt.Sprint("Reduce to ", sys), func(p api.Piece) result { return of(convey.Reduce(sys, p)) }})
	}
	for _, by := range []int{0, 2, -2} {
		l = append(l,
			maker{fmt.Sprint("Retune by ", by), func(p api.Piece) result { return of(convey.Retune(p, 1, by)) }},
			maker{fmt.Sprint("Slide by ", by), func(p api.Piece) result { return lossless(convey.Slide(p, by)) }})
	}
	for _, fret := range []int{0, 1, 2} {
		l = append(l,
			maker{fmt.Sprint("Capo at ", fret), func(p api.Piece) result { return of(convey.Capo(p, fret)) }},
			maker{fmt.Sprint("Release at ", fret), func(p api.Piece) result {
				return lossless(convey.Release(p, uncapped(p.Instrument, fret), fret))
			}})
	}
	return l
}

// uncapped returns the instrument that with a capo at a fret is the given one; its first frets are semitones.
func uncapped(in api.Instrument, fret int) api.Instrument {
	var without api.Instrument
	for i := range fret {
		without.Steps = append(without.Steps, i+1)
	}
	for _, step := range in.Steps {
		without.Steps = append(without.Steps, step+fret)
	}
	for _, c := range in.Courses {
		if c.Frets > 0 {
			c.Pitch -= fret
			c.Frets += fret
		}
		without.Courses = append(without.Courses, c)
	}
	return without
}

// scribble overwrites all memory that a piece reaches, also behind the ends of its lists.
func scribble(p api.Piece) {
	for _, ev := range p.Events[:cap(p.Events)] {
		for j := range ev.Stops[:cap(ev.Stops)] {
			ev.Stops[:cap(ev.Stops)][j] = api.Stop{Course: 77}
		}
	}
	for i := range p.Events[:cap(p.Events)] {
		p.Events[:cap(p.Events)][i] = api.Event{Bar: true, Sign: api.Sign{Value: 77}}
	}
	for i := range p.Instrument.Courses[:cap(p.Instrument.Courses)] {
		p.Instrument.Courses[:cap(p.Instrument.Courses)][i] = api.Course{Pitch: 77}
	}
	for i := range p.Instrument.Steps[:cap(p.Instrument.Steps)] {
		p.Instrument.Steps[:cap(p.Instrument.Steps)][i] = 77
	}
}

// R4: an argument is not changed, and shares no memory with a result.
func TestMemory(t *testing.T) {
	for _, m := range makers() {
		done := 0
		for _, p := range pieces() {
			if len(p.Events) > 20 {
				continue
			}
			kept := shown(p)
			got := m.call(p)
			if shown(p) != kept {
				t.Fatalf("%s changes %s", m.name, kept)
			}
			if got.e != api.OK {
				continue
			}
			done++
			again := shown(m.call(p).p)
			scribble(got.p)
			if shown(p) != kept || shown(m.call(p).p) != again {
				t.Fatalf("%s: the result shares memory with %s", m.name, kept)
			}
		}
		if done < 5 {
			t.Errorf("%s: only %d results", m.name, done)
		}
	}
}

// R4: no two lists of a result share memory.
func TestListsApart(t *testing.T) {
	p := made(standard("lute6"), "C 1b 2c 3d; - 1c 2d; - 1d 6c; - 2e; - 3f; - %; - 1c 2c 3c")
	for _, m := range makers() {
		got := m.call(p)
		if got.e != api.OK {
			continue
		}
		for i, ev := range got.p.Events {
			for j := range ev.Stops[:cap(ev.Stops)] {
				ev.Stops[:cap(ev.Stops)][j] = api.Stop{Course: i, Fret: j}
			}
		}
		for i, ev := range got.p.Events {
			for j, st := range ev.Stops[:cap(ev.Stops)] {
				if st != (api.Stop{Course: i, Fret: j}) {
					t.Fatalf("%s: two lists of the result share memory", m.name)
				}
			}
		}
	}
}

// R4: the instrument that Fit and Release are given is not changed and not shared.
func TestInstrumentIsCopied(t *testing.T) {
	in := standard("lute6")
	capped, _ := instrument.Capo(in, 2)
	fit := of(convey.Fit(made(standard("vihuela6"), "C 1a"), in, 0))
	release := lossless(convey.Release(made(capped, "C 1a"), in, 2))
	for _, got := range []result{fit, release} {
		if got.e != api.OK || !instrument.Same(got.p.Instrument, standard("lute6")) {
			t.Fatalf("%v", got)
		}
		scribble(got.p)
	}
	if !instrument.Same(in, standard("lute6")) {
		t.Errorf("the instrument is now %v", in)
	}
}

// R3: an empty list says what a nil one says.
func TestEmptyLists(t *testing.T) {
	in := api.Instrument{Courses: []api.Course{{Pitch: 60}, {Pitch: 55}}}
	for _, columns := range []string{"", "C %", "C 1a; C ~; - %", "C 1a 2a"} {
		p := made(in, columns)
		empty := copied(p)
		empty.Instrument.Steps = slices.Grow([]int{}, 9)
		empty.Events = slices.Grow([]api.Event{}, 9)
		for _, ev := range p.Events {
			ev.Stops = append(slices.Grow([]api.Stop{}, 9), ev.Stops...)
			empty.Events = append(empty.Events, ev)
		}
		for _, m := range makers() {
			wants(t, m.name+" of "+columns, m.call(empty), m.call(p))
		}
	}
}

// Every piece that is returned is valid, whatever happens to it on the way.
func TestResultsAreValid(t *testing.T) {
	for _, p := range pieces() {
		for _, m := range makers() {
			if got := m.call(p); got.e == api.OK && piece.Check(got.p) != api.OK {
				t.Fatalf("%s of %s = %s", m.name, shown(p), shown(got.p))
			}
		}
	}
}

// P0.6: what is not declared is there.
func TestDeclared(t *testing.T) {
	for _, p := range pieces() {
		for _, sys := range systems {
			q, lost, e := convey.Reduce(sys, p)
			if e != api.OK {
				continue
			}
			for i, ev := range p.Events {
				has := func(course, what int) bool {
					return slices.Contains(lost, api.Lack{Event: i, Course: course, What: what})
				}
				now := q.Events[i]
				if len(ev.Stops) == 0 && (ev.Tie != now.Tie) != (has(0, api.LackTie) || has(0, api.LackRest)) {
					t.Fatalf("event %d of Reduce(%d, %s) = %s, %s", i, sys, shown(p), shown(q), told(lost))
				}
				for _, st := range ev.Stops {
					if at := slices.IndexFunc(now.Stops, func(other api.Stop) bool { return other.Course == st.Course }); at < 0 {
						now.Stops = append(now.Stops, api.Stop{Course: st.Course, Fret: -1})
					}
					then := onCourse(now, st.Course)
					if then.Fret < 0 != has(st.Course, api.LackNote) ||
						then.Fret >= 0 && (then.Right != st.Right) != has(st.Course, api.LackRight) ||
						then.Fret >= 0 && (then.Grace != st.Grace) != has(st.Course, api.LackGrace) ||
						then.Fret >= 0 && (then.Hold != st.Hold) != has(st.Course, api.LackHold) {
						t.Fatalf("event %d of Reduce(%d, %s) = %s, %s", i, sys, shown(p), shown(q), told(lost))
					}
				}
			}
		}
	}
}

// P0.1, R5: no argument makes a function panic or go on for ever.
func TestHostileArguments(t *testing.T) {
	texts := []string{"", "\n", " ", "\x00", "\xff\xfe", strings.Repeat("9", 70000), strings.Repeat("0 0 note\n", 20000), "tablature french\n:\n|\n", "tablature german\n" + lute6Line + "C 5\n"}
	for _, text := range texts {
		convey.ParseReport(text)
		for sys := range api.System(7) {
			convey.Translate(text, sys)
		}
	}
	for _, x := range hostile {
		for _, y := range hostile {
			in := api.Instrument{Courses: []api.Course{{Pitch: x, Frets: y}}, Steps: []int{y, x}}
			st := api.Stop{Course: x, Fret: y, Right: y, Grace: x, Hold: y}
			events := []api.Event{
				{Sign: api.Sign{Value: 4}, Stops: []api.Stop{st}},
				{Sign: api.Sign{Value: x}, Tie: true, Stops: []api.Stop{st, st}},
			}
			for _, p := range []api.Piece{{Instrument: standard("lute6"), Events: events}, {Instrument: in, Events: events}, {Events: events}} {
				for sys := range api.System(7) {
					convey.Reduce(sys, p)
				}
				convey.Systems(p)
				convey.Fit(p, in, x)
				convey.Fit(made(standard("lute6"), "C 1a"), in, y)
				convey.Retune(p, x, y)
				convey.Capo(p, x)
				convey.Release(p, in, y)
				convey.Slide(p, x)
			}
			convey.Report([]api.Lack{{Event: x, Course: y, What: x}})
		}
	}
}
