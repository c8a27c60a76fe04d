package convey_test

import (
	"fmt"
	"strings"
	"testing"

	"theorbo/api"
	"theorbo/convey"
	"theorbo/notation"
	"theorbo/piece"
)

// rights and graces are the marks that each system has.
var (
	rights = map[api.System]string{api.French: "0123", api.Italian: "01", api.Spanish: "0", api.German: "01"}
	graces = map[api.System]string{api.French: "01234", api.Italian: "013", api.Spanish: "0", api.German: "03"}
)

// hasNote reports whether a system has a symbol for a place.
func hasNote(sys api.System, st api.Stop) bool {
	switch {
	case sys == api.French:
		return st.Course <= 10 || st.Fret == 0
	case st.Course <= 6:
		return st.Fret <= 10
	}
	return sys == api.Italian && st.Fret == 0
}

// reduced reduces a valid piece as the document says, for a system that exists.
func reduced(sys api.System, p api.Piece) result {
	for i, ev := range p.Events {
		if ev.Sign.Three && sys == api.German || i == 0 && len(ev.Stops) == 0 && sys == api.Spanish {
			return failed(api.ErrCannot)
		}
	}
	fates := fatesOf(p, func(st api.Stop) (api.Stop, bool) {
		if !strings.Contains(rights[sys], fmt.Sprint(st.Right)) {
			st.Right = 0
		}
		if !strings.Contains(graces[sys], fmt.Sprint(st.Grace)) {
			st.Grace = 0
		}
		return st, hasNote(sys, st)
	})
	q := settled(p, p.Instrument, fates)
	var sign api.Sign
	for i := range q.Events {
		ev := &q.Events[i]
		if ev.Sign != (api.Sign{}) {
			sign = ev.Sign
		}
		if sys == api.German {
			ev.Sign = sign
		}
		if len(ev.Stops) > 0 {
			continue
		}
		if sys == api.Spanish && i == 0 {
			return failed(api.ErrCannot)
		}
		if sys == api.Spanish {
			ev.Tie = true
		}
		if sys == api.German {
			ev.Tie = false
		}
	}
	reduceHolds(sys, q)
	var lost []api.Lack
	for i, ev := range p.Events {
		if ev.Tie && sys == api.German {
			lost = append(lost, api.Lack{Event: i, What: api.LackTie})
		}
		if !ev.Tie && len(ev.Stops) == 0 && sys == api.Spanish {
			lost = append(lost, api.Lack{Event: i, What: api.LackRest})
		}
		lost = append(lost, noteLosses(i, ev, q.Events[i], fates[i])...)
	}
	return result{q, lost, api.OK}
}

func reduceHolds(sys api.System, q api.Piece) {
	holdsFitted(q)
	for i, ev := range q.Events {
		for j, st := range ev.Stops {
			if sys == api.Spanish || sys != api.French && st.Hold < piece.Longest(q, i, st.Course) {
				ev.Stops[j].Hold = 0
			}
		}
	}
}

// P4.1: every piece, as the document says.
func TestReduce(t *testing.T) {
	for _, sys := range systems {
		met := map[int]int{}
		for _, p := range pieces() {
			got, want := of(convey.Reduce(sys, p)), reduced(sys, p)
			wants(t, fmt.Sprintf("Reduce(%d, %s)", sys, shown(p)), got, want)
			met[-int(want.e)]++
			for _, lack := range want.lost {
				met[lack.What]++
			}
		}
		if met[0] < 100 || met[api.LackNote] < 10 {
			t.Errorf("system %d: %v", sys, met)
		}
	}
}

// P4.1: pieces that are written out.
func TestReduceWritten(t *testing.T) {
	for _, c := range []struct {
		sys                api.System
		in                 api.Instrument
		before, want, lost string
	}{
		{api.Italian, standard("lute6"), "C 1a: 2d_1; - ~; - ~; - 2a", "C 1a 2d; - ~; - ~; - 2a", "0.1 right, 0.2 hold"},
		{api.German, standard("lute6"), "C 1a; - ~; - 1b", "C 1a; C %; C 1b", "1.0 tie"},
		// Nothing to leave out.
		{api.French, standard("lute6"), "", "", ""},
		{api.Spanish, standard("lute6"), "", "", ""},
		{api.German, standard("lute6"), "", "", ""},
		{api.French, standard("lute6"), "C3 1c:(_1; | - ~; Q. %", "C3 1c:(_1; | - ~; Q. %", ""},
		{api.French, wide(), "C 1t 7t 8t 9t 10t 11a 12a 13a 14a", "C 1t 7t 8t 9t 10t 11a 12a 13a 14a", ""},
		{api.Italian, standard("lute6"), "C3 1c.,_1; | - ~; Q. %", "C3 1c.,_1; | - ~; Q. %", ""},
		{api.Spanish, standard("lute6"), "C3 1c; | - ~; Q. 1a", "C3 1c; | - ~; Q. 1a", ""},
		{api.German, standard("lute6"), "Q. 1c.#_1; | - 2b; - %", "Q. 1c.#_1; | Q. 2b; Q. %", ""},
		// Marks, each value.
		{api.Italian, standard("lute6"), "C 1a. 2a: 3a' 4a, 5a^ 6a#; - 1a(", "C 1a. 2a 3a 4a, 5a 6a#; - 1a", "0.2 right, 0.3 right, 0.5 grace, 1.1 grace"},
		{api.Spanish, standard("lute6"), "C 1a. 2a: 3a' 4a, 5a^ 6a#; - 1a(", "C 1a 2a 3a 4a 5a 6a; - 1a", "0.1 right, 0.2 right, 0.3 right, 0.4 grace, 0.5 grace, 0.6 grace, 1.1 grace"},
		{api.German, standard("lute6"), "C 1a. 2a: 3a' 4a, 5a^ 6a#; - 1a(", "C 1a. 2a 3a 4a 5a 6a#; C 1a", "0.2 right, 0.3 right, 0.4 grace, 0.5 grace, 1.1 grace"},
		// One mark goes and the other one stays, or all go.
		{api.Italian, standard("lute6"), "C 1b.( 2b:#", "C 1b. 2b#", "0.1 grace, 0.2 right"},
		{api.Spanish, standard("lute6"), "C 1c:(_1 2b.#_1; - ~", "C 1c 2b; - ~", "0.1 right, 0.1 grace, 0.1 hold, 0.2 right, 0.2 grace, 0.2 hold"},
		// Notes, with whatever marks they have.
		{api.Italian, standard("lute7"), "C 1b 7c:^_1; - 2a", "C 1b; - 2a", "0.7 note"},
		{api.German, standard("lute7"), "C 1b 7a.; - 2a", "C 1b; C 2a", "0.7 note"},
		{api.French, wide(), "C 1a 10t 11b 12b 13b 14t", "C 1a 10t", "0.11 note, 0.12 note, 0.13 note, 0.14 note"},
		{api.Italian, wide(), "C 1l 2m 7a 8b 9a 10b 14a", "C 1l 7a 9a 14a", "0.2 note, 0.8 note, 0.10 note"},
		{api.Spanish, wide(), "C 1l 2m 6l 7a", "C 1l 6l", "0.2 note, 0.7 note"},
		{api.German, wide(), "C 1l 2m 6l 7a", "C 1l 6l", "0.2 note, 0.7 note"},
		// Bare events.
		{api.French, wide(), "C 11b; | Q 12b; - 1a", "C %; | Q ~; - 1a", "0.11 note, 1.12 note"},
		{api.Italian, standard("lute7"), "C 7b; | Q 7c.; - 1a", "C %; | Q ~; - 1a", "0.7 note, 1.7 note"},
		{api.German, standard("lute7"), "C 7b; | Q 7c.; - 1a", "C %; | Q %; Q 1a", "0.7 note, 1.7 note"},
		{api.Spanish, standard("lute7"), "C 1a; | Q 7c.; - 1a 7b", "C 1a; | Q ~; - 1a", "1.7 note, 2.7 note"},
		// Rests and ties; in an event of its own LackRest is no LackNote.
		{api.Spanish, standard("lute6"), "C 1a; - ~; | - %; - %", "C 1a; - ~; | - ~; - ~", "2.0 rest, 3.0 rest"},
		{api.German, standard("lute6"), "C %; - %; - ~; - ~", "C %; C %; C %; C %", "2.0 tie, 3.0 tie"},
		// A hold that is shortened by a new rest may be the longest one now.
		{api.German, standard("lute6"), "C 1b_2; - 2a; - ~", "C 1b_1; C 2a; C %", "0.1 hold, 2.0 tie"},
		{api.German, standard("lute6"), "C 1b_1; - 2a; - ~", "C 1b_1; C 2a; C %", "2.0 tie"},
		{api.German, standard("lute6"), "C 1b_1; - ~; - ~", "C 1b; C %; C %", "0.1 hold, 1.0 tie, 2.0 tie"},
		{api.German, standard("lute7"), "C 1b_2; - 2a; - 7a", "C 1b_1; C 2a; C %", "0.1 hold, 2.7 note"},
		// A hold is no longer the longest one if the note behind it is left out.
		{api.Italian, wide(), "C 1b_1; - 2a; - 1m", "C 1b; - 2a; - ~", "0.1 hold, 2.1 note"},
		{api.Italian, wide(), "C 1b_2; - 2a; - 2m; - 1a", "C 1b_2; - 2a; - ~; - 1a", "2.2 note"},
		{api.Italian, standard("lute6"), "C 1b_1; - 2a; - 3a; - 1a", "C 1b; - 2a; - 3a; - 1a", "0.1 hold"},
		{api.Italian, standard("lute6"), "C 1b_2; - 2a; - 3a; - 1a", "C 1b_2; - 2a; - 3a; - 1a", ""},
	} {
		got := of(convey.Reduce(c.sys, made(c.in, c.before)))
		if !piece.Same(got.p, made(c.in, c.want)) || told(got.lost) != c.lost || got.e != api.OK {
			t.Errorf("Reduce(%d, %s) = %s, %s, %d", c.sys, c.before, shown(got.p), told(got.lost), got.e)
		}
	}
}

// P4.1: the errors and their order.
func TestReduceErrors(t *testing.T) {
	for _, sys := range noSystems() {
		wants(t, fmt.Sprintf("Reduce(%d)", sys), of(convey.Reduce(sys, made(standard("lute6"), "C3 %"))), failed(api.ErrSystem))
		for _, b := range broken() {
			wants(t, fmt.Sprintf("Reduce(%d) of %s", sys, b.name), of(convey.Reduce(sys, b.p)), failed(api.ErrSystem))
		}
	}
	for _, sys := range systems {
		for _, b := range broken() {
			wants(t, fmt.Sprintf("Reduce(%d) of %s", sys, b.name), of(convey.Reduce(sys, b.p)), failed(b.e))
			b.p.Events = append([]api.Event{{Sign: api.Sign{Value: 4, Three: true}}}, b.p.Events...)
			if e := piece.Check(b.p); e != api.OK {
				wants(t, fmt.Sprintf("Reduce(%d) of a triplet rest and %s", sys, b.name), of(convey.Reduce(sys, b.p)), failed(e))
			}
		}
	}
	for _, c := range []struct {
		columns string
		able    string // the systems that can
	}{
		{"C %", "124"},
		{"C %; - 1a", "124"},
		{"C3 1a", "123"},
		{"C 1a; C3 ~", "123"},
		{"C 1a; C3 %", "123"},
		{"C3 %", "12"},
		{"C 7a", "124"},
		{"C 7b", "124"},
		{"C 7b; - %", "124"},
		{"C 1a 7b; - 7b", "1234"},
		{"C 1a; - ~; - %", "1234"},
	} {
		for _, sys := range systems {
			got := of(convey.Reduce(sys, made(standard("lute7"), c.columns)))
			if !strings.Contains(c.able, fmt.Sprint(sys)) {
				wants(t, fmt.Sprintf("Reduce(%d, %s)", sys, c.columns), got, failed(api.ErrCannot))
			} else if got.e != api.OK {
				t.Errorf("Reduce(%d, %s): error %d", sys, c.columns, got.e)
			}
		}
	}
}

// P4.10: what a reduced piece is.
func TestReduceLaws(t *testing.T) {
	for _, sys := range systems {
		same := 0
		for _, p := range pieces() {
			got := of(convey.Reduce(sys, p))
			if got.e != api.OK {
				continue
			}
			checkReduced(t, sys, p, got)
			if len(got.lost) == 0 {
				same++
			}
			wants(t, "Reduce again of "+shown(got.p), of(convey.Reduce(sys, got.p)), result{got.p, nil, api.OK})
		}
		if same < 10 {
			t.Errorf("system %d: only %d pieces without losses", sys, same)
		}
	}
}

func checkReduced(t *testing.T, sys api.System, p api.Piece, got result) {
	t.Helper()
	before, _ := piece.Onsets(p)
	after, _ := piece.Onsets(got.p)
	if !notation.Can(sys, got.p) || fmt.Sprint(got.p.Instrument) != fmt.Sprint(p.Instrument) || fmt.Sprint(before) != fmt.Sprint(after) {
		t.Fatalf("Reduce(%d, %s) = %s", sys, shown(p), shown(got.p))
	}
	for i, ev := range got.p.Events {
		for _, st := range ev.Stops {
			if onCourse(p.Events[i], st.Course).Fret != st.Fret {
				t.Fatalf("Reduce(%d, %s) has another note: %s", sys, shown(p), shown(got.p))
			}
		}
	}
	if sys == api.German {
		p, _ = piece.Plain(p)
	}
	if len(got.lost) == 0 && !piece.Same(got.p, p) {
		t.Fatalf("Reduce(%d, %s) is another piece, without losses: %s", sys, shown(p), shown(got.p))
	}
}
