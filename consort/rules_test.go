package consort_test

import (
	"fmt"
	"math/rand/v2"
	"reflect"
	"testing"

	"theorbo/api"
	"theorbo/consort"
	"theorbo/voice"
)

// arguments are what the functions of the package are called with.
type arguments struct {
	Consort     api.Consort
	Parts       [][]api.Tone
	Desks       []api.Desk
	Instruments []api.Instrument
	Most        int
}

func anyArguments(r *rand.Rand) arguments {
	a := arguments{Consort: anyConsort(r), Parts: anyParts(r, 45, 72), Most: api.MaxParts}
	a.Desks = anyDesks(r, len(a.Parts))
	for _, p := range a.Consort.Pieces {
		a.Instruments = append(a.Instruments, p.Instrument)
	}
	// Pieces and desks may stand there twice.
	a.Consort.Pieces[len(a.Consort.Pieces)-1] = a.Consort.Pieces[0]
	a.Desks[len(a.Desks)-1] = a.Desks[0]
	return copied(reflect.ValueOf(a), 3, func(reflect.Value) {}).Interface().(arguments)
}

// results are what a function of the package returns, but for the error.
type results []any

// calls are the functions of the package.
var calls = map[string]func(a arguments) (results, api.Errno){
	"Check": func(a arguments) (results, api.Errno) { return nil, consort.Check(a.Consort) },
	"Pad":   func(a arguments) (results, api.Errno) { c, e := consort.Pad(a.Consort.Pieces); return results{c}, e },
	"Make": func(a arguments) (results, api.Errno) {
		c, settings, e := consort.Make(a.Parts, a.Desks)
		return results{c, settings}, e
	},
	"Allot": func(a arguments) (results, api.Errno) {
		desks, missing, e := consort.Allot(a.Parts, a.Instruments, a.Most)
		return results{desks, missing}, e
	},
	"Score":    func(a arguments) (results, api.Errno) { l, e := consort.Score(a.Consort); return results{l}, e },
	"Sounds":   func(a arguments) (results, api.Errno) { l, e := consort.Sounds(a.Consort); return results{l}, e },
	"Discords": func(a arguments) (results, api.Errno) { l, e := consort.Discords(a.Consort); return results{l}, e },
	"New": func(a arguments) (results, api.Errno) {
		p, e := consort.New(a.Consort)
		if e != api.OK {
			return results{p}, e
		}
		first, _ := p.Step()
		sounding := p.Sounding()
		second, _ := p.Seek(0)
		return results{first, sounding, second, p.Takes(), p.Now(), p.Clock()}, e
	},
}

// copied copies a value, so that its lists have some room behind their ends, and changes each int and each list of the copy.
func copied(v reflect.Value, room int, change func(v reflect.Value)) reflect.Value {
	c := reflect.New(v.Type()).Elem()
	c.Set(v)
	switch v.Kind() {
	case reflect.Int:
		change(c)
	case reflect.Slice:
		c.Set(reflect.MakeSlice(v.Type(), 0, v.Len()+room))
		for i := range v.Len() {
			c.Set(reflect.Append(c, copied(v.Index(i), room, change)))
		}
		change(c)
	case reflect.Struct:
		for i := range v.NumField() {
			c.Field(i).Set(copied(v.Field(i), room, change))
		}
	}
	return c
}

// visit goes through the numbers and bools of a value, also those behind the ends of its lists.
func visit(v reflect.Value, look func(v reflect.Value)) {
	switch v.Kind() {
	case reflect.Struct:
		for i := range v.NumField() {
			visit(v.Field(i), look)
		}
	case reflect.Slice:
		list := v.Slice(0, v.Cap())
		for i := range list.Len() {
			visit(list.Index(i), look)
		}
	default:
		look(v)
	}
}

// whole shows a value with what stands behind the ends of its lists.
func whole(x any) string {
	var l []any
	visit(reflect.ValueOf(x), func(v reflect.Value) { l = append(l, v.Interface()) })
	return fmt.Sprint(x, l)
}

// scribble overwrites a value, each of its numbers with another one, and reports whether two of its lists share memory.
func scribble(x any) (shared bool) {
	v := reflect.New(reflect.TypeOf(x)).Elem()
	v.Set(reflect.ValueOf(x))
	last := 7000
	visit(v, func(v reflect.Value) {
		switch v.Kind() {
		case reflect.Int:
			last++
			v.SetInt(int64(last))
		case reflect.Bool:
			v.SetBool(!v.Bool())
		}
	})
	seen := map[int64]bool{}
	visit(v, func(v reflect.Value) {
		if v.Kind() == reflect.Int {
			shared = shared || seen[v.Int()]
			seen[v.Int()] = true
		}
	})
	return shared
}

// R4: no argument is changed, and no result shares memory with an argument or another result.
func TestMemory(t *testing.T) {
	r := rand.New(rand.NewPCG(32, 33))
	for range 150 {
		a := anyArguments(r)
		kept := whole(a)
		for name, call := range calls {
			first, e := call(a)
			second, _ := call(a)
			if e != api.OK {
				t.Fatalf("%s of %v: %d", name, a, e)
			}
			want := fmt.Sprint(second...)
			for i, x := range first {
				others := fmt.Sprint(first[i+1:]...)
				if scribble(x) || fmt.Sprint(first[i+1:]...) != others {
					t.Fatalf("the results of %s share memory", name)
				}
			}
			if whole(a) != kept {
				t.Fatalf("%s changes its arguments, or shares them", name)
			}
			if fmt.Sprint(second...) != want {
				t.Fatalf("the results of two calls of %s share memory", name)
			}
		}
	}
}

// R4: what a player returns is not its own memory, nor that of its copies.
func TestPlayerMemory(t *testing.T) {
	r := rand.New(rand.NewPCG(34, 35))
	for _, c := range consorts(36, 100) {
		p, q := player(c), player(c)
		for range 60 {
			d := anyDeed(r, lengthOf(c.Pieces[0]), len(c.Pieces))
			before := p.Copy()
			kept := state(before)
			f, g := d.frame(p), d.frame(q)
			if fmt.Sprint(f) != fmt.Sprint(g) {
				t.Fatalf("the frames of %v are %v and %v", c, f, g)
			}
			if scribble(f) || scribble(p.Sounding()) || scribble(p.Takes()) {
				t.Fatalf("the lists of a frame of %v share memory", c)
			}
			if state(p) != state(q) || state(before) != kept {
				t.Fatalf("a player of %v shares what it returns", c)
			}
			if before.Step(); state(p) != state(q) {
				t.Fatalf("a player of %v shares its copy", c)
			}
		}
	}
}

// R3: an empty list is a nil one.
func TestEmptyLists(t *testing.T) {
	r := rand.New(rand.NewPCG(37, 38))
	empty := func(v reflect.Value) {
		if v.Kind() == reflect.Slice && v.Len() == 0 {
			v.SetZero()
		}
	}
	for range 100 {
		a := anyArguments(r)
		if r.IntN(4) == 0 {
			a = arguments{Consort: reads(pair, "/"), Instruments: []api.Instrument{{}}, Desks: []api.Desk{{}}, Most: 1}
		}
		full := copied(reflect.ValueOf(a), 1, func(reflect.Value) {}).Interface().(arguments)
		bare := copied(reflect.ValueOf(a), 1, empty).Interface().(arguments)
		for name, call := range calls {
			first, e := call(full)
			second, f := call(bare)
			if e != f || fmt.Sprint(first...) != fmt.Sprint(second...) {
				t.Fatalf("%s of %v = %v, %d; with nil lists it is %v, %d", name, a, first, e, second, f)
			}
		}
	}
}

// isNothing reports whether a result is its zero value, where an empty list is a nil one.
func isNothing(x any) bool {
	v := reflect.ValueOf(x)
	if v.Kind() == reflect.Slice {
		return v.Len() == 0
	}
	if c, ok := x.(api.Consort); ok {
		return len(c.Pieces) == 0
	}
	return v.IsZero()
}

// P0.1, R2, R5: with any numbers and lists every call ends, and with an error returns nothing else.
func TestHostile(t *testing.T) {
	r := rand.New(rand.NewPCG(39, 40))
	ok, refused := map[string]int{}, map[string]int{}
	for range 1500 {
		rarely := []int{20, 200, 2000, 10000}[r.IntN(4)]
		spoil := func(v reflect.Value) {
			switch {
			case v.Kind() == reflect.Int && r.IntN(rarely) == 0:
				v.SetInt(int64(hostile[r.IntN(len(hostile))]))
			case v.Kind() == reflect.Slice && v.Len() > 0 && r.IntN(rarely) == 0:
				v.Set(v.Slice(r.IntN(2), v.Len()))
			case v.Kind() == reflect.Slice && v.Len() > 0 && r.IntN(4*rarely) == 0:
				v.Set(reflect.AppendSlice(v, v))
			}
		}
		a := copied(reflect.ValueOf(anyArguments(r)), 0, spoil).Interface().(arguments)
		for name, call := range calls {
			l, e := call(a)
			if e == api.OK {
				ok[name]++
				continue
			}
			refused[name]++
			for _, x := range l {
				if !isNothing(x) {
					t.Fatalf("%s of %v returns %v, %d", name, a, x, e)
				}
			}
		}
		if e := voice.CheckParts(a.Parts); e != api.OK {
			for _, name := range []string{"Make", "Allot"} {
				if _, f := calls[name](a); f != e {
					t.Fatalf("%s of %v: %d; the error of the parts is %d", name, a, f, e)
				}
			}
		}
		if e := consort.Check(a.Consort); e != api.OK {
			refuses(t, a.Consort, e)
		}
	}
	for name := range calls {
		if ok[name] < 100 || refused[name] < 100 {
			t.Errorf("%s: %d times accepted, %d times refused", name, ok[name], refused[name])
		}
	}
}

// P0.1: methods of a player that no function has returned end, too.
func TestForeignPlayers(t *testing.T) {
	known := player(duet())
	known.Step()
	shared := *known
	known.Step()
	known.Seek(0)
	known.Step()
	for _, p := range []*consort.Player{{}, new(consort.Player), &shared, (&consort.Player{}).Copy()} {
		for range 3 {
			for _, n := range hostile {
				for _, order := range []string{"step", "seek", "repeat 0", "repeat", "mute", "unmute", "now", "clock", "next", "done", "sounding", "takes", "step"} {
					said(p, fmt.Sprint(order, " ", n, " ", n+1))
				}
			}
			p = p.Copy()
		}
	}
}
