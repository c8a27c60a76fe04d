package hand_test

import (
	"cmp"
	"fmt"
	"math/rand/v2"
	"reflect"
	"slices"
	"testing"

	"theorbo/api"
	"theorbo/hand"
)

// player is a function with a hand and a sequence of chords; its other arguments are as wrong as they can be, or as right as a fingering makes them.
type player struct {
	name     string
	searches bool
	wrong    func(h api.Hand, l []api.Chord) ([]any, api.Errno)
	right    func(h api.Hand, l []api.Chord, grips []api.Grip) any
}

func players() []player {
	return []player{
		{"Valid", false, func(h api.Hand, l []api.Chord) ([]any, api.Errno) {
			cost, at, e := hand.Valid(h, l, make([]api.Grip, 500))
			return []any{cost, at}, e
		}, func(h api.Hand, l []api.Chord, grips []api.Grip) any {
			cost, _, _ := hand.Valid(h, l, grips)
			return cost
		}},
		{"Hardest", false, func(h api.Hand, l []api.Chord) ([]any, api.Errno) {
			at, e := hand.Hardest(h, l, make([]api.Grip, 500))
			return []any{at}, e
		}, func(h api.Hand, l []api.Chord, grips []api.Grip) any { at, _ := hand.Hardest(h, l, grips); return at }},
		{"List", true, func(h api.Hand, l []api.Chord) ([]any, api.Errno) {
			f, e := hand.List(h, l, 0)
			return []any{len(f)}, e
		}, func(h api.Hand, l []api.Chord, _ []api.Grip) any { f, _ := hand.List(h, l, 5); return f }},
		{"Best", true, func(h api.Hand, l []api.Chord) ([]any, api.Errno) {
			f, e := hand.Best(h, l)
			return []any{len(f.Grips), f.Cost}, e
		}, func(h api.Hand, l []api.Chord, _ []api.Grip) any { f, _ := hand.Best(h, l); return f }},
		{"Count", true, func(h api.Hand, l []api.Chord) ([]any, api.Errno) {
			n, e := hand.Count(h, l)
			return []any{n}, e
		}, func(h api.Hand, l []api.Chord, _ []api.Grip) any { n, _ := hand.Count(h, l); return n }},
		{"Through", true, func(h api.Hand, l []api.Chord) ([]any, api.Errno) {
			f, e := hand.Through(h, l, -1, api.Grip{})
			return []any{len(f.Grips), f.Cost}, e
		}, func(h api.Hand, l []api.Chord, grips []api.Grip) any {
			f, _ := hand.Through(h, l, len(l)-1, grips[len(l)-1])
			return f
		}},
		{"Prove", true, func(h api.Hand, l []api.Chord) ([]any, api.Errno) {
			table, e := hand.Prove(h, l)
			return []any{len(table)}, e
		}, func(h api.Hand, l []api.Chord, _ []api.Grip) any { table, _ := hand.Prove(h, l); return table }},
		{"Proves", true, func(h api.Hand, l []api.Chord) ([]any, api.Errno) {
			is, e := hand.Proves(h, l, nil, 0)
			return []any{map[bool]int{true: 1}[is]}, e
		}, func(h api.Hand, l []api.Chord, _ []api.Grip) any {
			table, _ := hand.Prove(h, l)
			is, _ := hand.Proves(h, l, table, 0)
			return is
		}},
		{"Block", true, func(h api.Hand, l []api.Chord) ([]any, api.Errno) {
			from, to, e := hand.Block(h, l)
			return []any{from, to}, e
		}, func(h api.Hand, l []api.Chord, _ []api.Grip) any {
			from, to, _ := hand.Block(h, l)
			return []int{from, to}
		}},
	}
}

// R1, R2: the errors of the hand, of the chords and of their grips come first, in this order, and nothing with them.
func TestErrors(t *testing.T) {
	bad := hand.Standard()
	bad.Jump = -1
	just, over, dense := many()
	wrong := chords("1.1; 1.2 h1")
	tooMany := slices.Repeat(wrong, 201)
	for _, p := range players() {
		check := func(name string, h api.Hand, l []api.Chord, want api.Errno) {
			t.Helper()
			got, e := p.wrong(h, l)
			if e != want {
				t.Errorf("%s of %s: %d; it should be %d", p.name, name, e, want)
			}
			for _, v := range got {
				if v != 0 {
					t.Errorf("%s of %s returns %v with the error %d", p.name, name, got, e)
				}
			}
		}
		check("a bad hand", bad, tooMany, api.ErrHand)
		check("a bad hand and a chord", bad, chords("1.1"), api.ErrHand)
		check("402 chords", over, tooMany, api.ErrMany)
		check("chords that do not follow", over, wrong, api.ErrArg)
		check("a chord that is not valid", over, []api.Chord{dense, chord("1.0")}, api.ErrArg)
		if p.searches {
			check("a chord with 201 grips", over, []api.Chord{dense}, api.ErrMany)
			check("a chord with 201 grips behind one with none", over, []api.Chord{chord("1.1 2.2 3.3 4.4 5.5"), dense}, api.ErrMany)
		} else {
			check("a chord with 201 grips", over, []api.Chord{dense}, api.ErrArg)
		}
	}
	// The errors of other arguments come behind.
	stuck := chords("1.17")
	for name, c := range map[string]struct{ got, want api.Errno }{
		"List, most 0":            {second(hand.List(just, []api.Chord{dense}, 0)), api.ErrArg},
		"List, most 65":           {second(hand.List(just, []api.Chord{dense}, 65)), api.ErrArg},
		"List, most 0 and stuck":  {second(hand.List(hand.Standard(), stuck, 0)), api.ErrArg},
		"List, stuck":             {second(hand.List(hand.Standard(), stuck, 1)), api.ErrStuck},
		"Best, stuck":             {second(hand.Best(hand.Standard(), stuck)), api.ErrStuck},
		"List of many":            {second(hand.List(over, []api.Chord{dense}, 65)), api.ErrMany},
		"Through of many":         {second(hand.Through(over, []api.Chord{dense}, 7, api.Grip{})), api.ErrMany},
		"Through, no chord":       {second(hand.Through(just, []api.Chord{dense}, 1, api.Grip{})), api.ErrArg},
		"Through, no grip":        {second(hand.Through(just, []api.Chord{dense}, 0, api.Grip{})), api.ErrGrip},
		"Through of just enough":  {second(hand.Through(just, []api.Chord{dense}, 0, grip("9: 1 1 1 1"))), api.OK},
		"Count of just enough":    {second(hand.Count(just, []api.Chord{dense})), api.OK},
		"Prove of just enough":    {second(hand.Prove(just, []api.Chord{dense})), api.OK},
		"Valid of any number":     {third(hand.Valid(over, []api.Chord{dense}, grips("9: 1 1 1 1"))), api.OK},
		"Chords of no instrument": {second(hand.Chords(api.Piece{})), api.ErrInstrument},
	} {
		if c.got != c.want {
			t.Errorf("%s: %d; it should be %d", name, c.got, c.want)
		}
	}
	for _, n := range hostile {
		l, e := hand.List(hand.Standard(), chords("1.1"), n)
		if e == api.OK != (n >= 1 && n <= 64) || e != api.OK && (e != api.ErrArg || len(l) > 0) {
			t.Errorf("List with %d = %v, %d", n, l, e)
		}
	}
}

func second[T any](_ T, e api.Errno) api.Errno { return e }

func third[T, U any](_ T, _ U, e api.Errno) api.Errno { return e }

// scribble overwrites all numbers of a list, also behind its end and in the lists that it contains.
func scribble(v reflect.Value, mark int) {
	switch v.Kind() {
	case reflect.Int:
		v.SetInt(int64(7000 + mark))
	case reflect.Bool:
		v.SetBool(!v.Bool())
	case reflect.Struct:
		for i := range v.NumField() {
			scribble(v.Field(i), mark+i)
		}
	case reflect.Slice:
		list := v.Slice(0, v.Cap())
		for i := range list.Len() {
			scribble(list.Index(i), mark+i)
		}
	}
}

// whole shows a value with the room behind the ends of its lists.
func whole(v reflect.Value) string {
	t := fmt.Sprint(v.Interface())
	switch v.Kind() {
	case reflect.Struct:
		for i := range v.NumField() {
			t += whole(v.Field(i))
		}
	case reflect.Slice:
		list := v.Slice(0, v.Cap())
		for i := range list.Len() {
			t += whole(list.Index(i))
		}
	}
	return t
}

// roomyHand copies a hand into lists that have room behind their ends.
func roomyHand(h api.Hand) api.Hand {
	h.Low = append(make([]int, 0, 9), h.Low...)
	h.High = append(make([]int, 0, 9), h.High...)
	h.Barre = append(make([]bool, 0, 9), h.Barre...)
	return h
}

// roomyChords copies chords into lists that have room behind their ends.
func roomyChords(l []api.Chord) []api.Chord {
	copied := make([]api.Chord, 0, len(l)+2)
	for _, c := range l {
		copied = append(copied, api.Chord{
			Down: append(make([]api.Place, 0, 6), c.Down...), Held: append(make([]int, 0, 6), c.Held...), Open: append(make([]int, 0, 20), c.Open...),
		})
	}
	return copied
}

// roomyGrips copies grips into lists that have room behind their ends.
func roomyGrips(l []api.Grip) []api.Grip {
	copied := make([]api.Grip, 0, len(l)+2)
	for _, g := range l {
		copied = append(copied, api.Grip{Pos: g.Pos, Fingers: append(make([]int, 0, 6), g.Fingers...)})
	}
	return copied
}

// unshared calls a function twice with the same arguments: it changes none, and its results share no memory.
func unshared(t *testing.T, name string, arguments any, call func() any) {
	t.Helper()
	kept := whole(reflect.ValueOf(arguments))
	first, second := call(), call()
	want := fmt.Sprint(second)
	if fmt.Sprint(first) != want {
		t.Fatalf("%s returns %v, then %s", name, first, want)
	}
	pointer := reflect.New(reflect.TypeOf(first)).Elem()
	pointer.Set(reflect.ValueOf(first))
	scribble(pointer, 0)
	if whole(reflect.ValueOf(arguments)) != kept {
		t.Fatalf("%s has changed, or shares, its arguments", name)
	}
	if fmt.Sprint(second) != want {
		t.Fatalf("two results of %s share memory", name)
	}
}

// R4: no argument is changed, and no result shares memory with an argument or with another result.
func TestMemory(t *testing.T) {
	done := 0
	for _, k := range tasks()[:300] {
		f, e := hand.Best(k.h, k.l)
		if e != api.OK || len(k.l) == 0 {
			continue
		}
		done++
		arguments := struct {
			H     api.Hand
			L     []api.Chord
			Grips []api.Grip
		}{roomyHand(k.h), roomyChords(k.l), roomyGrips(f.Grips)}
		h, l, fingering := arguments.H, arguments.L, arguments.Grips
		for _, p := range players() {
			unshared(t, p.name, arguments, func() any { return p.right(h, l, fingering) })
		}
		unshared(t, "Grips", arguments, func() any { all, _ := hand.Grips(h, l[0]); return all })
		unshared(t, "Own", arguments, func() any { cost, _ := hand.Own(h, l[0], fingering[0]); return cost })
		unshared(t, "Step", arguments, func() any {
			cost, _ := hand.Step(h, l[0], fingering[0], l[len(l)-1], fingering[len(l)-1])
			return cost
		})
		unshared(t, "Check", arguments, func() any { return int(hand.Check(h)) })
		unshared(t, "CheckChords", arguments, func() any { return int(hand.CheckChords(l)) })
		unshared(t, "Write", arguments, func() any { text, _ := hand.Write(fingering); return text })
	}
	if done < 100 {
		t.Errorf("only %d fingerings", done)
	}
	unshared(t, "Standard", 0, func() any { return hand.Standard() })
	unshared(t, "Read", 0, func() any { l, _ := hand.Read("1 1\n2 1 1\n3\n"); return l })
	p := read(t, heading+"C c_1 - - - - a\n- - d - - - -\n- ~\n- %\n")
	unshared(t, "Chords", p, func() any { l, _ := hand.Chords(p); return l })
}

// R4: no two lists of a result share memory, not even behind their ends.
func TestListsApart(t *testing.T) {
	apart := func(name string, lists [][]int) {
		t.Helper()
		for i, l := range lists {
			for j := range l[:cap(l)] {
				l[:cap(l)][j] = 1000*i + j
			}
		}
		for i, l := range lists {
			for j, n := range l[:cap(l)] {
				if n != 1000*i+j {
					t.Fatalf("two lists of %s share memory", name)
				}
			}
		}
	}
	fingersOf := func(grips []api.Grip) [][]int {
		var lists [][]int
		for _, g := range grips {
			lists = append(lists, g.Fingers)
		}
		return lists
	}
	for _, k := range tasks()[:300] {
		l, _ := hand.List(k.h, k.l, 20)
		var lists [][]int
		for _, f := range l {
			lists = append(lists, fingersOf(f.Grips)...)
		}
		apart("List", lists)
		table, _ := hand.Prove(k.h, k.l)
		apart("Prove", table)
		for _, c := range k.l {
			all, _ := hand.Grips(k.h, c)
			apart("Grips", fingersOf(all))
		}
	}
	l, _ := hand.Read("1 1\n2 1 1\n3\n18 1 2 3 4\n")
	apart("Read", fingersOf(l))
	h := hand.Standard()
	apart("Standard", [][]int{h.Low, h.High})
	made, _ := hand.Chords(read(t, heading+"C c_1 b_1 - - - a\n- - - d - - a\n- ~\n- %\n"))
	lists := [][]int{}
	for _, c := range made {
		lists = append(lists, c.Held, c.Open)
	}
	apart("Chords", lists)
}

// R3: an empty list says what a nil one says.
func TestEmptyLists(t *testing.T) {
	h := hand.Standard()
	empty := api.Chord{Down: []api.Place{}, Held: []int{}, Open: []int{}}
	none := api.Grip{Pos: 3, Fingers: []int{}}
	for _, p := range players() {
		a, e := p.wrong(h, nil)
		b, f := p.wrong(h, []api.Chord{})
		if fmt.Sprint(a) != fmt.Sprint(b) || e != f {
			t.Errorf("%s of no chords: %v, %d and %v, %d", p.name, a, e, b, f)
		}
		if a, b := p.right(h, []api.Chord{{}}, grips("3:")), p.right(h, []api.Chord{empty}, []api.Grip{none}); fmt.Sprint(a) != fmt.Sprint(b) {
			t.Errorf("%s of an empty chord: %v and %v", p.name, a, b)
		}
	}
	for _, c := range []api.Chord{{}, empty} {
		for _, g := range []api.Grip{{Pos: 3}, none} {
			cost, e := hand.Own(h, c, g)
			wants(t, "Own", cost, e, 0)
			cost, e = hand.Step(h, c, g, empty, none)
			wants(t, "Step", cost, e, 0)
			text, e := hand.Write([]api.Grip{g})
			wants(t, "Write", text, e, "3\n")
		}
		all, e := hand.Grips(h, c)
		wants(t, "Grips", len(all), e, 12)
	}
	is, e := hand.Proves(h, []api.Chord{}, [][]int{}, 0)
	wants(t, "Proves", is, e, true)
	is, e = hand.Proves(h, chords("1.17"), [][]int{nil}, 5)
	wants(t, "Proves", is, e, true)
	text, e := hand.Write([]api.Grip{})
	wants(t, "Write", text, e, "")
	if e := hand.Check(api.Hand{Low: []int{}, High: []int{}, Barre: []bool{}, Top: 1}); e != api.ErrHand {
		t.Errorf("Check of a hand without fingers: %d", e)
	}
}

// P0.1, R2, R5: with any numbers every call ends, and with an error returns nothing else.
func TestHostile(t *testing.T) {
	r := rand.New(rand.NewPCG(23, 24))
	one := func() int { return hostile[r.IntN(len(hostile))] }
	several := func(l []int) []int {
		l = slices.Clone(l)
		if len(l) > 0 && r.IntN(2) == 0 {
			l[r.IntN(len(l))] = one()
		} else if r.IntN(2) == 0 {
			l = append(l, one())
		}
		return l
	}
	ok, refused := 0, 0
	for _, k := range tasks() {
		h, l := k.h, roomyChords(k.l)
		switch r.IntN(6) {
		case 0:
			h.Low = several(h.Low)
		case 1:
			h.High = several(h.High)
		case 2:
			*[]*int{&h.Top, &h.Jump, &h.Shift, &h.Lift, &h.Bar, &h.Stretch, &h.Slide}[r.IntN(7)] = one()
		case 3, 4:
			if len(l) > 0 {
				c := &l[r.IntN(len(l))]
				c.Held, c.Open = several(c.Held), several(c.Open)
				if r.IntN(2) == 0 {
					c.Down = append(c.Down, api.Place{Course: one(), Fret: one()})
				}
			}
		}
		if playAnyhow(t, h, l) == api.OK {
			ok++
		} else {
			refused++
		}
		var table [][]int
		var wild []api.Grip
		for _, c := range l {
			row, _ := hand.Grips(h, c)
			table = append(table, several(make([]int, len(row))))
			wild = append(wild, api.Grip{Pos: one(), Fingers: several(make([]int, len(c.Down)))})
		}
		hand.Proves(h, l, table, one())
		hand.Valid(h, l, wild)
		hand.Hardest(h, l, wild)
		hand.Write(wild)
		if len(l) > 1 {
			hand.Own(h, l[0], wild[0])
			hand.Step(h, l[0], wild[0], l[1], wild[1])
			hand.Through(h, l, one(), wild[0])
		}
	}
	if ok < 500 || refused < 500 {
		t.Errorf("%d accepted, %d refused", ok, refused)
	}
}

// playAnyhow calls all functions with a hand and chords that need not be valid, and returns their first error.
func playAnyhow(t *testing.T, h api.Hand, l []api.Chord) api.Errno {
	t.Helper()
	fault := cmp.Or(hand.Check(h), hand.CheckChords(l))
	for _, p := range players() {
		got, e := p.wrong(h, l)
		if fault != api.OK && e != fault || fault == api.OK && e == api.ErrHand {
			t.Fatalf("%s of %v, %v = %v, %d; the error should be %d", p.name, h, l, got, e, fault)
		}
		for _, v := range got {
			if e != api.OK && v != 0 {
				t.Fatalf("%s of %v, %v = %v, %d", p.name, h, l, got, e)
			}
		}
	}
	return fault
}

// P0.1: as many chords and grips as there may be, and chords with as many places as there may be.
func TestLargest(t *testing.T) {
	just, _, dense := many()
	l := slices.Repeat([]api.Chord{dense}, 400)
	list, e := hand.List(just, l, 64)
	if e != api.OK || len(list) != 64 {
		t.Fatalf("%d fingerings, %d", len(list), e)
	}
	n, e := hand.Count(just, l)
	wants(t, "Count", n, e, api.MaxCount)
	table, _ := hand.Prove(just, l)
	is, e := hand.Proves(just, l, table, list[0].Cost)
	wants(t, "Proves", is, e, true)
	// Many beginnings of grips fit these chords, but no grip does.
	h := full()
	wide := chord("1.12 2.12 3.12 4.12 5.12 6.12 8.12 10.12 12.12 14.12 o7 o9 o11 o13")
	n, e = hand.Count(h, slices.Repeat([]api.Chord{wide}, 400))
	wants(t, "Count", n, e, 0)
	from, to, e := hand.Block(h, slices.Repeat(chords("1.9 2.9 3.9 4.9 5.9 6.9 7.9 8.10 9.11 10.12 11.13"), 400))
	if from != 0 || to != 0 || e != api.OK {
		t.Errorf("Block = %d, %d, %d", from, to, e)
	}
}
