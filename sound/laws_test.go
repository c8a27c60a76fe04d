package sound_test

import (
	"fmt"
	"math/rand/v2"
	"reflect"
	"slices"
	"testing"

	"theorbo/api"
	"theorbo/piece"
	"theorbo/sound"
)

// P5.13: on each course one note and one press at a time, and under each press its note.
func TestOneAtATime(t *testing.T) {
	for _, p := range pieces() {
		notes, e := sound.Notes(p)
		presses, f := sound.Presses(p)
		if e != api.OK || f != api.OK {
			t.Fatalf("%s: %d, %d", shown(p), e, f)
		}
		byCourse := map[int][]api.Note{}
		for _, n := range notes {
			if n.From >= n.To {
				t.Fatalf("%s: note %v", shown(p), n)
			}
			before := byCourse[n.Course]
			if len(before) > 0 && before[len(before)-1].To > n.From {
				t.Fatalf("%s: notes %v and %v", shown(p), before[len(before)-1], n)
			}
			byCourse[n.Course] = append(before, n)
		}
		until := map[int]int{}
		for _, pr := range presses {
			if until[pr.Course] > pr.From {
				t.Fatalf("%s: two presses on course %d", shown(p), pr.Course)
			}
			until[pr.Course] = pr.To
			if !slices.ContainsFunc(byCourse[pr.Course], func(n api.Note) bool {
				return n.Event == pr.Event && n.From <= pr.From && pr.To <= n.To
			}) {
				t.Fatalf("%s: press %v has no note", shown(p), pr)
			}
		}
	}
}

// P5.14: signs and bar lines that are written otherwise sound as before.
func TestWrittenOtherwise(t *testing.T) {
	done := 0
	for _, p := range pieces() {
		want, _ := sound.Tones(p)
		compare := func(name string, q api.Piece, e api.Errno) {
			if e != api.OK {
				return
			}
			done++
			if l, f := sound.Tones(q); f != api.OK || !slices.Equal(l, want) {
				t.Fatalf("Tones of %s of %s\n = %v, %d; it should be\n %v", name, shown(p), l, f, want)
			}
		}
		for _, f := range []func(api.Piece) (api.Piece, api.Errno){piece.Plain, piece.Terse, piece.Join} {
			q, e := f(p)
			if e != api.OK {
				t.Fatalf("error %d", e)
			}
			compare("another form", q, e)
		}
		for _, bar := range []int{4, 12, 36, 48, 72, 96, 144, 288, 4608} {
			q, e := piece.Break(p, bar)
			compare(fmt.Sprint("Break by ", bar), q, e)
		}
	}
	if done < 2000 {
		t.Errorf("only %d pieces", done)
	}
}

// P5.15: no gap from 0 to the end, none empty in time, and At says the same wherever it is asked.
func TestSonoritiesFollow(t *testing.T) {
	for _, p := range pieces() {
		l, e := sound.Sonorities(p)
		if e != api.OK {
			t.Fatalf("%s: %d", shown(p), e)
		}
		at := 0
		for i, s := range l {
			if s.From != at || s.To <= s.From {
				t.Fatalf("Sonorities of %s = %v", shown(p), l)
			}
			at = s.To
			if i > 40 {
				continue
			}
			for _, time := range []int{s.From, (s.From + s.To) / 2, s.To - 1} {
				if got, e := sound.At(p, time); e != api.OK || !slices.Equal(got, s.Pitches) {
					t.Fatalf("At %d of %s = %v, %d; the sonority is %v", time, shown(p), got, e, s)
				}
			}
		}
		if at != endOf(p) {
			t.Fatalf("Sonorities of %s = %v", shown(p), l)
		}
	}
}

// R1, R2: a piece that is not valid gives piece.Check's error, before all others, and nothing else.
func TestErrors(t *testing.T) {
	for _, b := range broken() {
		for _, c := range callers() {
			if got, e := c.call(b.p); e != b.e || got != "[]" {
				t.Errorf("%s of a piece with %s = %s, %d; it should be %d", c.name, b.name, got, e, b.e)
			}
		}
		for _, n := range hostile {
			l, e := sound.At(b.p, n)
			refuses(t, fmt.Sprintf("At %d of a piece with %s", n, b.name), l, e, b.e)
			notes, e := sound.Ringing(b.p, n)
			refuses(t, fmt.Sprintf("Ringing %d of a piece with %s", n, b.name), notes, e, b.e)
		}
	}
}

// scribble overwrites all numbers of a list, also behind its end and in the lists that it contains.
func scribble(list reflect.Value) {
	list = list.Slice(0, list.Cap())
	for i := range list.Len() {
		scribbleOn(list.Index(i), i)
	}
}

func scribbleOn(v reflect.Value, i int) {
	switch v.Kind() {
	case reflect.Int:
		v.SetInt(int64(7000 + i))
	case reflect.Struct:
		for _, f := range v.Fields() {
			scribbleOn(f, i)
		}
	case reflect.Slice:
		scribble(v)
	}
}

// R4: no argument is changed, and no result shares memory with the argument or with another result.
func TestMemory(t *testing.T) {
	calls := map[string]func(p api.Piece) any{
		"Presses":    func(p api.Piece) any { l, _ := sound.Presses(p); return l },
		"Notes":      func(p api.Piece) any { l, _ := sound.Notes(p); return l },
		"Strings":    func(p api.Piece) any { l, _ := sound.Strings(p); return l },
		"Tones":      func(p api.Piece) any { l, _ := sound.Tones(p); return l },
		"Causes":     func(p api.Piece) any { l, _ := sound.Causes(p); return l },
		"Courses":    func(p api.Piece) any { l, _ := sound.Courses(p); return l },
		"At":         func(p api.Piece) any { l, _ := sound.At(p, endOf(p)/2); return l },
		"Sonorities": func(p api.Piece) any { l, _ := sound.Sonorities(p); return l },
		"Clashes":    func(p api.Piece) any { l, _ := sound.Clashes(p); return l },
		"Melody":     func(p api.Piece) any { l, _ := sound.Melody(p); return l },
		"Ground":     func(p api.Piece) any { l, _ := sound.Ground(p); return l },
		"Ringing":    func(p api.Piece) any { l, _ := sound.Ringing(p, len(p.Events)/2); return l },
	}
	for name, call := range calls {
		for _, p := range pieces()[:60] {
			arg := roomy(p)
			kept := whole(arg)
			first, second := call(arg), call(arg)
			want := fmt.Sprint(second)
			if fmt.Sprint(first) != want {
				t.Fatalf("%s of %s: %v, then %s", name, shown(p), first, want)
			}
			scribble(reflect.ValueOf(first))
			if whole(arg) != kept {
				t.Fatalf("%s has changed, or shares, %s", name, kept)
			}
			if fmt.Sprint(second) != want {
				t.Fatalf("%s of %s: two results share memory", name, shown(p))
			}
		}
	}
}

// R4: no two lists of a result share memory, not even behind their ends.
func TestListsApart(t *testing.T) {
	apart := func(name string, lists [][]int) {
		for i, l := range lists {
			for j := range l[:cap(l)] {
				l[:cap(l)][j] = 1000*i + j
			}
		}
		for i, l := range lists {
			for j, n := range l[:cap(l)] {
				if n != 1000*i+j {
					t.Fatalf("two lists of %s share memory", name)
				}
			}
		}
	}
	for _, p := range pieces() {
		rows, _ := sound.Courses(p)
		apart("Courses", rows)
		for _, f := range []func(api.Piece) ([]sound.Sonority, api.Errno){sound.Sonorities, sound.Clashes} {
			l, _ := f(p)
			var pitches [][]int
			for _, s := range l {
				pitches = append(pitches, s.Pitches)
			}
			apart("Sonorities", pitches)
		}
	}
}

// R3: an empty list says what a nil one says.
func TestEmptyLists(t *testing.T) {
	in := api.Instrument{Courses: []api.Course{{Pitch: 60}, {Pitch: 55, Octave: true}}}
	for _, columns := range []string{"", "4 %", "4 1/0; - ~; - %; - 2/0; - ~", "4 1/0 2/0"} {
		p := made(in, columns)
		for _, c := range callers() {
			a, e := c.call(p)
			if b, f := c.call(roomy(p)); a != b || e != f {
				t.Errorf("%s of %s = %s, %d; with empty lists %s, %d", c.name, columns, a, e, b, f)
			}
		}
	}
}

// hostilePiece returns a piece of hostile numbers.
func hostilePiece(r *rand.Rand) api.Piece {
	one := func() int { return hostile[r.IntN(len(hostile))] }
	p := roomy(random(r, anyInstrument(r), r.IntN(6)))
	if r.IntN(4) == 0 {
		p.Instrument.Courses = append(p.Instrument.Courses, api.Course{Pitch: one(), Frets: one(), Octave: true})
		p.Instrument.Steps = append(p.Instrument.Steps, one())
	}
	for i := range p.Events {
		ev := &p.Events[i]
		switch r.IntN(6) {
		case 0:
			ev.Sign = api.Sign{Value: one(), Dot: r.IntN(2) == 0, Three: r.IntN(2) == 0}
		case 1:
			ev.Stops = append(ev.Stops, api.Stop{Course: one(), Fret: one(), Right: one(), Grace: one(), Hold: one()})
		case 2:
			ev.Tie = true
		case 3:
			for j := range ev.Stops {
				ev.Stops[j].Hold = one()
			}
		}
	}
	return p
}

// P0.1, R2, R5: every call ends, and with an error returns nothing else.
func TestHostile(t *testing.T) {
	r := rand.New(rand.NewPCG(15, 16))
	faults := 0
	for range 3000 {
		p := hostilePiece(r)
		fault := piece.Check(p)
		if fault != api.OK {
			faults++
		}
		for _, c := range callers() {
			got, e := c.call(p)
			// Without events there is no time 0 and no event 0.
			alone := len(p.Events) == 0 && (c.name == "At 0" || c.name == "Ringing 0")
			if e != fault && !(fault == api.OK && e == api.ErrArg && alone) || e != api.OK && got != "[]" {
				t.Fatalf("%s of %s = %s, %d; the error should be %d", c.name, shown(p), got, e, fault)
			}
		}
		for _, n := range hostile {
			l, e := sound.At(p, n)
			inside := fault == api.OK && n >= 0 && n < endOf(p)
			if e == api.OK != inside || e != api.OK && (len(l) > 0 || e != api.ErrArg && e != fault) {
				t.Fatalf("At %d of %s = %v, %d", n, shown(p), l, e)
			}
			notes, e := sound.Ringing(p, n)
			inside = fault == api.OK && n >= 0 && n < len(p.Events)
			if e == api.OK != inside || e != api.OK && (len(notes) > 0 || e != api.ErrArg && e != fault) {
				t.Fatalf("Ringing at event %d of %s = %v, %d", n, shown(p), notes, e)
			}
		}
		sound.Concordant([]int{hostile[r.IntN(len(hostile))], hostile[r.IntN(len(hostile))], hostile[r.IntN(len(hostile))]})
	}
	if faults < 500 || faults > 2500 {
		t.Errorf("%d pieces of 3000 are not valid", faults)
	}
}

// P0.1: a piece with as many events, courses and strings as there may be.
func TestLargest(t *testing.T) {
	in := wide()
	for i := range in.Courses {
		in.Courses[i].Octave = true
	}
	p := api.Piece{Instrument: in}
	for i := range api.MaxEvents {
		ev := api.Event{Sign: api.Sign{Value: 1, Dot: true}}
		for course := range in.Courses {
			ev.Stops = append(ev.Stops, api.Stop{Course: course + 1, Fret: i % (api.MaxFrets + 1)})
		}
		p.Events = append(p.Events, ev)
	}
	strings, e := sound.Strings(p)
	if e != api.OK || len(strings) != 2*api.MaxNotes {
		t.Errorf("%d strings, %d", len(strings), e)
	}
	sonorities, e := sound.Sonorities(p)
	if e != api.OK || len(sonorities) != api.MaxEvents || sonorities[399].To != 400*576 {
		t.Errorf("%d sonorities, %d", len(sonorities), e)
	}
	clashes, e := sound.Clashes(p)
	if e != api.OK || len(clashes) != api.MaxEvents {
		t.Errorf("%d clashes, %d", len(clashes), e)
	}
}
