package leaf_test

import (
	"fmt"
	"math/rand/v2"
	"reflect"
	"slices"
	"testing"

	"theorbo/api"
	"theorbo/leaf"
	"theorbo/piece"
)

// arguments are what the functions of the package are called with.
type arguments struct {
	Leaf, Other api.Leaf
	Rules       api.Rules
	Piece       api.Piece
	Most        int
}

func anyArguments(r *rand.Rand) arguments {
	k := problem{anyLeaf(r, r.IntN(6), 3), anyRules(r)}
	a := arguments{k.f, torn(r, k.f), k.r, anyPiece(r, k.f), 1 + r.IntN(64)}
	return copied(reflect.ValueOf(a), 3, func(reflect.Value) {}).Interface().(arguments)
}

// results are what a function of the package returns, but for the error.
type results []any

// call is a function of the package.
type call struct {
	name string
	// which of its arguments it looks at, beside the leaf: r for rules, o for another leaf, p for a piece; in order.
	looks string
	with  func(a arguments) (results, api.Errno)
}

func calls() []call {
	return []call{
		{"Check", "f", func(a arguments) (results, api.Errno) { return nil, leaf.Check(a.Leaf) }},
		{"CheckRules", "r", func(a arguments) (results, api.Errno) { return nil, leaf.CheckRules(a.Rules) }},
		{"Of", "p", func(a arguments) (results, api.Errno) { f, e := leaf.Of(a.Piece); return results{f}, e }},
		{"Piece", "f", func(a arguments) (results, api.Errno) { p, e := leaf.Piece(a.Leaf); return results{p}, e }},
		{"Piece of one", "p", func(a arguments) (results, api.Errno) {
			f, e := leaf.Of(a.Piece)
			if e != api.OK {
				return nil, e
			}
			p, e := leaf.Piece(f)
			return results{p}, e
		}},
		{"Reads", "fp", func(a arguments) (results, api.Errno) {
			is, e := leaf.Reads(a.Leaf, a.Piece)
			return results{is}, e
		}},
		{"Within", "fo", func(a arguments) (results, api.Errno) {
			is, e := leaf.Within(a.Leaf, a.Other)
			return results{is}, e
		}},
		{"Meet", "fo", func(a arguments) (results, api.Errno) { f, e := leaf.Meet(a.Leaf, a.Other); return results{f}, e }},
		{"Join", "fo", func(a arguments) (results, api.Errno) { f, e := leaf.Join(a.Leaf, a.Other); return results{f}, e }},
		{"Allowed", "frp", func(a arguments) (results, api.Errno) { return nil, leaf.Allowed(a.Leaf, a.Rules, a.Piece) }},
		{"List", "fr", func(a arguments) (results, api.Errno) {
			l, e := leaf.List(a.Leaf, a.Rules, a.Most)
			return results{l}, e
		}},
		{"Count", "fr", func(a arguments) (results, api.Errno) { n, e := leaf.Count(a.Leaf, a.Rules); return results{n}, e }},
		{"Narrow", "fr", func(a arguments) (results, api.Errno) { f, e := leaf.Narrow(a.Leaf, a.Rules); return results{f}, e }},
		{"Stuck", "fr", func(a arguments) (results, api.Errno) { n, e := leaf.Stuck(a.Leaf, a.Rules); return results{n}, e }},
		{"Nearest", "frp", func(a arguments) (results, api.Errno) {
			p, n, e := leaf.Nearest(a.Leaf, a.Rules, a.Piece)
			return results{p, n}, e
		}},
		{"Format", "f", func(a arguments) (results, api.Errno) { s, e := leaf.Format(a.Leaf); return results{s}, e }},
		{"Parse of Format", "f", func(a arguments) (results, api.Errno) {
			s, e := leaf.Format(a.Leaf)
			if e != api.OK {
				return nil, e
			}
			f, e := leaf.Parse(s)
			return results{f}, e
		}},
	}
}

// faultIn returns the first error of the arguments that a function looks at.
func faultIn(a arguments, looks string) api.Errno {
	for _, letter := range looks {
		e := api.OK
		switch letter {
		case 'f':
			e = leaf.Check(a.Leaf)
		case 'o':
			e = leaf.Check(a.Other)
		case 'r':
			e = leaf.CheckRules(a.Rules)
		case 'p':
			e = piece.Check(a.Piece)
		}
		if e != api.OK {
			return e
		}
	}
	return api.OK
}

// R1, R2: the first bad argument decides, and the others come behind.
func TestErrors(t *testing.T) {
	good := arguments{example(), example(), plainRules(), pieceOf(pair, ". 3 1.0; | 4 1.1"), 1}
	bad := arguments{Rules: measured(-1), Most: 0}
	badRules := []api.Rules{{}, {Hand: badHand(), Measure: -1}, measured(-1), measured(4609)}
	check := func(a arguments) {
		t.Helper()
		for _, c := range calls() {
			want := faultIn(a, c.looks)
			l, e := c.with(a)
			if want != api.OK && e != want {
				t.Errorf("%s of %v: %d; it should be %d", c.name, a, e, want)
			}
			for _, x := range l {
				if e != api.OK && !isZero(x) {
					t.Errorf("%s of %v returns %v, %d", c.name, a, x, e)
				}
			}
		}
	}
	for _, f := range append(brokenLeaves(), brokenLeaf{"a good one", example(), api.OK}) {
		for _, o := range append(brokenLeaves(), brokenLeaf{"a good one", example(), api.OK}) {
			for _, r := range append(badRules, plainRules()) {
				for _, p := range append(brokenPieces(), brokenPiece{pieceOf(pair, ""), api.OK}) {
					check(arguments{f.f, o.f, r, p.p, 0})
				}
			}
		}
	}
	check(good)
	check(bad)
	for _, c := range []struct {
		name      string
		got, want api.Errno
	}{
		{"List, most 0", second(leaf.List(good.Leaf, good.Rules, 0)), api.ErrArg},
		{"List, most 64", second(leaf.List(good.Leaf, good.Rules, 64)), api.OK},
		{"List, most 65", second(leaf.List(good.Leaf, good.Rules, 65)), api.ErrArg},
		{"List, most 0 and no reading", second(leaf.List(good.Leaf, measured(1), 0)), api.ErrArg},
		{"List, most 0 and bad rules", second(leaf.List(good.Leaf, api.Rules{}, 0)), api.ErrHand},
		{"List, no reading", second(leaf.List(good.Leaf, measured(1), 1)), api.ErrNoReading},
		{"List, most 0 and too many readings", second(leaf.List(made(gut(3), ". 4 "+all+" "+all+" "+all), good.Rules, 0)), api.ErrArg},
		{"Nearest of another piece, and too many readings", third(leaf.Nearest(made(gut(3), ". 4 "+all+" "+all+" "+all), good.Rules, good.Piece)), api.ErrReading},
	} {
		if c.got != c.want {
			t.Errorf("%s: %d; it should be %d", c.name, c.got, c.want)
		}
	}
	for _, n := range hostile {
		l, e := leaf.List(good.Leaf, good.Rules, n)
		if (e == api.OK) != (n >= 1 && n <= 64) || e != api.OK && (e != api.ErrArg || len(l) > 0) {
			t.Errorf("List with %d = %v, %d", n, l, e)
		}
	}
}

// isZero reports whether a result is its zero value, where an empty list is a nil one.
func isZero(x any) bool {
	switch v := x.(type) {
	case api.Leaf:
		return isNothing(v)
	case api.Piece:
		return noPiece(v)
	case []api.Piece:
		return len(v) == 0
	}
	return reflect.ValueOf(x).IsZero()
}

// copied copies a value, so that its lists have some room behind their ends, and changes each int and each list of the copy.
func copied(v reflect.Value, room int, change func(v reflect.Value)) reflect.Value {
	c := reflect.New(v.Type()).Elem()
	c.Set(v)
	switch v.Kind() {
	case reflect.Int:
		change(c)
	case reflect.Slice:
		c.Set(reflect.MakeSlice(v.Type(), 0, v.Len()+room))
		for i := range v.Len() {
			c.Set(reflect.Append(c, copied(v.Index(i), room, change)))
		}
		change(c)
	case reflect.Struct:
		for i := range v.NumField() {
			c.Field(i).Set(copied(v.Field(i), room, change))
		}
	}
	return c
}

// visit goes through the numbers, bools and texts of a value, also those behind the ends of its lists.
func visit(v reflect.Value, look func(v reflect.Value)) {
	switch v.Kind() {
	case reflect.Struct:
		for i := range v.NumField() {
			visit(v.Field(i), look)
		}
	case reflect.Slice:
		list := v.Slice(0, v.Cap())
		for i := range list.Len() {
			visit(list.Index(i), look)
		}
	default:
		look(v)
	}
}

// whole shows a value with what stands behind the ends of its lists.
func whole(x any) string {
	var l []any
	visit(reflect.ValueOf(x), func(v reflect.Value) { l = append(l, v.Interface()) })
	return fmt.Sprint(x, l)
}

// scribble overwrites a value, each of its numbers with another one, and reports whether two of its lists share memory.
func scribble(x any) (shared bool) {
	v := reflect.New(reflect.TypeOf(x)).Elem()
	v.Set(reflect.ValueOf(x))
	last := 7000
	visit(v, func(v reflect.Value) {
		switch v.Kind() {
		case reflect.Int:
			last++
			v.SetInt(int64(last))
		case reflect.Bool:
			v.SetBool(!v.Bool())
		}
	})
	seen := map[int64]bool{}
	visit(v, func(v reflect.Value) {
		if v.Kind() == reflect.Int {
			shared = shared || seen[v.Int()]
			seen[v.Int()] = true
		}
	})
	return shared
}

// R4: no argument is changed, and no result shares memory with an argument or another result.
func TestMemory(t *testing.T) {
	r := rand.New(rand.NewPCG(51, 52))
	done := map[string]int{}
	for range 600 {
		a := anyArguments(r)
		kept := whole(a)
		for _, c := range calls() {
			first, e := c.with(a)
			again, _ := c.with(a)
			if e == api.OK {
				done[c.name]++
			}
			want := fmt.Sprint(again...)
			for i, x := range first {
				others := fmt.Sprint(first[i+1:]...)
				if scribble(x) || fmt.Sprint(first[i+1:]...) != others {
					t.Fatalf("the results of %s share memory", c.name)
				}
			}
			if whole(a) != kept {
				t.Fatalf("%s changes its arguments, or shares them", c.name)
			}
			if fmt.Sprint(again...) != want {
				t.Fatalf("the results of two calls of %s share memory", c.name)
			}
		}
	}
	for _, c := range calls() {
		if done[c.name] < 50 {
			t.Errorf("%s has only %d results", c.name, done[c.name])
		}
	}
}

// R3: an empty list is a nil one.
func TestEmptyLists(t *testing.T) {
	r := rand.New(rand.NewPCG(53, 54))
	empty := func(v reflect.Value) {
		if v.Kind() == reflect.Slice && v.Len() == 0 {
			v.SetZero()
		}
	}
	for range 300 {
		a := anyArguments(r)
		if r.IntN(4) == 0 {
			a = arguments{Leaf: made(pair, ""), Other: made(pair, ""), Rules: plainRules(), Piece: pieceOf(pair, ""), Most: 1}
		}
		if r.IntN(4) == 0 && len(a.Leaf.Columns) > 0 {
			a.Leaf.Columns[0].Cells[0] = []int{}
		}
		if r.IntN(6) == 0 && len(a.Leaf.Columns) > 0 {
			a.Leaf.Columns[0].Signs = []api.Sign{}
		}
		full := copied(reflect.ValueOf(a), 1, func(reflect.Value) {}).Interface().(arguments)
		bare := copied(reflect.ValueOf(a), 0, empty).Interface().(arguments)
		for _, c := range calls() {
			l, e := c.with(full)
			m, f := c.with(bare)
			if e != f || fmt.Sprint(l...) != fmt.Sprint(m...) {
				t.Fatalf("%s of %v = %v, %d; with nil lists it is %v, %d", c.name, a, l, e, m, f)
			}
		}
	}
}

// P0.1, R2, R5: with any numbers and lists every call ends, and with an error returns nothing else.
func TestHostile(t *testing.T) {
	r := rand.New(rand.NewPCG(55, 56))
	ok, refused := map[string]int{}, map[string]int{}
	for range 6000 {
		rarely := []int{20, 100, 1000, 10000}[r.IntN(4)]
		spoil := func(v reflect.Value) {
			switch {
			case v.Kind() == reflect.Int && r.IntN(rarely) == 0:
				v.SetInt(int64(hostile[r.IntN(len(hostile))]))
			case v.Kind() == reflect.Slice && v.Len() > 0 && r.IntN(rarely) == 0:
				v.Set(v.Slice(r.IntN(2), v.Len()))
			case v.Kind() == reflect.Slice && v.Len() > 0 && r.IntN(4*rarely) == 0:
				v.Set(reflect.AppendSlice(v, v))
			}
		}
		a := copied(reflect.ValueOf(anyArguments(r)), 0, spoil).Interface().(arguments)
		for _, c := range calls() {
			l, e := c.with(a)
			if want := faultIn(a, c.looks); want != api.OK && e != want {
				t.Fatalf("%s of %v: %d; it should be %d", c.name, a, e, want)
			}
			if e == api.OK {
				ok[c.name]++
				continue
			}
			refused[c.name]++
			for _, x := range l {
				if !isZero(x) {
					t.Fatalf("%s of %v returns %v, %d", c.name, a, x, e)
				}
			}
		}
	}
	for _, c := range calls() {
		if ok[c.name] < 100 || refused[c.name] < 100 {
			t.Errorf("%s: %d times accepted, %d times refused", c.name, ok[c.name], refused[c.name])
		}
	}
}

// P0.1: texts of any bytes.
func TestAnyText(t *testing.T) {
	r := rand.New(rand.NewPCG(57, 58))
	for range 20000 {
		b := make([]byte, r.IntN(40))
		for i := range b {
			b[i] = byte(r.IntN(256))
		}
		text := string(b)
		if r.IntN(2) == 0 {
			text = pair + "\n" + text
		}
		f, e := leaf.Parse(text)
		if e != api.OK && !isNothing(f) || e == api.OK && text != pair+"\n" {
			t.Fatalf("Parse(%q) = %v, %d", text, f, e)
		}
	}
	if !slices.Equal([]api.Errno{second(leaf.Parse("")), second(leaf.Parse("\x00\n"))}, []api.Errno{api.ErrForm, api.ErrForm}) {
		t.Error("Parse of next to nothing")
	}
}
