package intabulate_test

import (
	"fmt"
	"math/rand/v2"
	"reflect"
	"slices"
	"testing"

	"theorbo/api"
	"theorbo/hand"
	"theorbo/intabulate"
	"theorbo/voice"
)

// arguments are what the functions of the package are called with.
type arguments struct {
	Parts   [][]api.Tone
	In      api.Instrument
	Hand    api.Hand
	Shift   int
	Table   []api.Figure
	Picks   []int
	Setting api.Setting
	Number  int
}

// called returns what a function of the package returns for arguments.
type called struct {
	name string
	call func(a arguments) (results any, e api.Errno)
}

func calls() []called {
	part := func(a arguments) []api.Tone { return append(a.Parts, nil)[0] }
	return []called{
		{"CheckTable", func(a arguments) (any, api.Errno) { return 0, intabulate.CheckTable(a.Table) }},
		{"Fits", func(a arguments) (any, api.Errno) { l, e := intabulate.Fits(part(a), a.Table, a.Number); return l, e }},
		{"Divide", func(a arguments) (any, api.Errno) { l, e := intabulate.Divide(part(a), a.Table, a.Picks); return l, e }},
		{"Undivide", func(a arguments) (any, api.Errno) {
			l, e := intabulate.Undivide(part(a), a.Table, a.Picks)
			return l, e
		}},
		{"Adorn", func(a arguments) (any, api.Errno) { l, e := intabulate.Adorn(part(a), a.Table, a.Number); return l, e }},
		{"Transpose", func(a arguments) (any, api.Errno) { l, e := intabulate.Transpose(a.Parts, a.Number); return l, e }},
		{"Missing", func(a arguments) (any, api.Errno) {
			n, e := intabulate.Missing(a.Parts, a.In, a.Number)
			return n, e
		}},
		{"Fit", func(a arguments) (any, api.Errno) {
			shift, missing, e := intabulate.Fit(a.Parts, a.In)
			return []int{shift, missing}, e
		}},
		{"Times", func(a arguments) (any, api.Errno) { l, e := intabulate.Times(a.Parts); return l, e }},
		{"Intabulate", func(a arguments) (any, api.Errno) {
			s, e := intabulate.Intabulate(a.Parts, a.In, a.Hand, a.Shift)
			return s, e
		}},
		{"Auto", func(a arguments) (any, api.Errno) { s, e := intabulate.Auto(a.Parts, a.In, a.Hand); return s, e }},
		{"Verify", func(a arguments) (any, api.Errno) { return 0, intabulate.Verify(a.Parts, a.Setting) }},
		{"Left", func(a arguments) (any, api.Errno) { l, e := intabulate.Left(a.Parts, a.Setting); return l, e }},
		{"Lost", func(a arguments) (any, api.Errno) {
			dropped, doubled, cut := intabulate.Lost(a.Setting)
			return []int{dropped, doubled, cut}, api.OK
		}},
	}
}

// isZero reports whether a result is the zero value, or an empty list, or has only zero numbers.
func isZero(v reflect.Value) bool {
	switch v.Kind() {
	case reflect.Slice:
		for i := range v.Len() {
			if v.Type().Elem().Kind() != reflect.Int || !v.Index(i).IsZero() {
				return false
			}
		}
		return true
	case reflect.Struct:
		for i := range v.NumField() {
			if !isZero(v.Field(i)) {
				return false
			}
		}
		return true
	}
	return v.IsZero()
}

// roomy copies a value so that each list in it has room behind its end.
func roomy(v reflect.Value) reflect.Value {
	c := reflect.New(v.Type()).Elem()
	c.Set(v)
	switch v.Kind() {
	case reflect.Slice:
		c.Set(reflect.MakeSlice(v.Type(), 0, v.Len()+3))
		for i := range v.Len() {
			c.Set(reflect.Append(c, roomy(v.Index(i))))
		}
	case reflect.Struct:
		for i := range v.NumField() {
			c.Field(i).Set(roomy(v.Field(i)))
		}
	}
	return c
}

// scribble overwrites all numbers of a value, also behind the ends of its lists, each with another one.
func scribble(v reflect.Value, next *int64) {
	switch v.Kind() {
	case reflect.Int:
		*next++
		v.SetInt(*next)
	case reflect.Bool:
		v.SetBool(!v.Bool())
	case reflect.Struct:
		for i := range v.NumField() {
			scribble(v.Field(i), next)
		}
	case reflect.Slice:
		list := v.Slice(0, v.Cap())
		for i := range list.Len() {
			scribble(list.Index(i), next)
		}
	}
}

// whole shows a value with the room behind the ends of its lists.
func whole(v reflect.Value) string {
	switch v.Kind() {
	case reflect.Struct:
		t := ""
		for i := range v.NumField() {
			t += whole(v.Field(i)) + ";"
		}
		return t
	case reflect.Slice:
		t := fmt.Sprint(v.Len(), ":")
		list := v.Slice(0, v.Cap())
		for i := range list.Len() {
			t += whole(list.Index(i)) + ","
		}
		return t
	}
	return fmt.Sprint(v.Interface())
}

// settable returns a value that may be overwritten.
func settable(x any) reflect.Value {
	v := reflect.New(reflect.TypeOf(x)).Elem()
	v.Set(reflect.ValueOf(x))
	return v
}

// numbersOf lists all numbers of a value, also those behind the ends of its lists.
func numbersOf(v reflect.Value) []int64 {
	var l []int64
	switch v.Kind() {
	case reflect.Int:
		return []int64{v.Int()}
	case reflect.Struct:
		for i := range v.NumField() {
			l = append(l, numbersOf(v.Field(i))...)
		}
	case reflect.Slice:
		list := v.Slice(0, v.Cap())
		for i := range list.Len() {
			l = append(l, numbersOf(list.Index(i))...)
		}
	}
	return l
}

// anyArguments returns arguments that all functions accept.
func anyArguments(r *rand.Rand, k task) arguments {
	a := arguments{Parts: k.parts, In: k.in, Hand: k.h, Shift: k.shift, Table: anyTable(r), Number: 1}
	a.Setting, _ = k.set()
	if len(k.parts) > 0 {
		a.Picks, _ = intabulate.Adorn(k.parts[0], a.Table, 1)
	}
	return roomy(reflect.ValueOf(a)).Interface().(arguments)
}

// R4: no argument is changed, and no result shares memory with an argument or with another result, nor do two lists of one result.
func TestMemory(t *testing.T) {
	r := rand.New(rand.NewPCG(19, 20))
	tasks, _ := verdicts()
	done := map[string]int{}
	for _, k := range tasks[:500] {
		a := anyArguments(r, k)
		kept := whole(reflect.ValueOf(a))
		for _, c := range calls() {
			first, e := c.call(a)
			second, _ := c.call(a)
			if e == api.OK {
				done[c.name]++
			}
			want := fmt.Sprint(second)
			if fmt.Sprint(first) != want {
				t.Fatalf("%s of %v returns %v, then %s", c.name, a, first, want)
			}
			v, next := settable(first), int64(7000)
			scribble(v, &next)
			if l := numbersOf(v); len(slices.Compact(slices.Sorted(slices.Values(l)))) != len(l) {
				t.Fatalf("two lists of a result of %s of %v share memory", c.name, a)
			}
			if whole(reflect.ValueOf(a)) != kept {
				t.Fatalf("%s has changed, or shares, its arguments", c.name)
			}
			if fmt.Sprint(second) != want {
				t.Fatalf("two results of %s share memory", c.name)
			}
		}
	}
	for _, c := range calls() {
		if done[c.name] < 50 {
			t.Errorf("%s: only %d calls", c.name, done[c.name])
		}
	}
}

// R3: an empty list says what a nil one says.
func TestEmptyLists(t *testing.T) {
	r := rand.New(rand.NewPCG(21, 22))
	// swapped returns a value with nil lists in place of empty ones, or the other way round.
	var swapped func(v reflect.Value) reflect.Value
	swapped = func(v reflect.Value) reflect.Value {
		c := reflect.New(v.Type()).Elem()
		c.Set(v)
		switch {
		case v.Kind() == reflect.Slice && v.Len() == 0:
			if v.IsNil() {
				c.Set(reflect.MakeSlice(v.Type(), 0, 0))
			} else {
				c.SetZero()
			}
		case v.Kind() == reflect.Slice:
			c.Set(reflect.MakeSlice(v.Type(), 0, v.Len()))
			for i := range v.Len() {
				c.Set(reflect.Append(c, swapped(v.Index(i))))
			}
		case v.Kind() == reflect.Struct:
			for i := range v.NumField() {
				c.Field(i).Set(swapped(v.Field(i)))
			}
		}
		return c
	}
	tasks, _ := verdicts()
	for _, k := range append(tasks[:300], task{in: lute(), h: hand.Standard()}, task{}) {
		a := anyArguments(r, k)
		b := swapped(reflect.ValueOf(a)).Interface().(arguments)
		for _, c := range calls() {
			first, e := c.call(a)
			second, f := c.call(b)
			if e != f || fmt.Sprint(first) != fmt.Sprint(second) {
				t.Fatalf("%s of %v = %v, %d; with empty lists it is %v, %d", c.name, a, first, e, second, f)
			}
		}
	}
}

// P0.1, R2, R5: with any numbers every call ends, and with an error returns nothing else.
func TestHostile(t *testing.T) {
	r := rand.New(rand.NewPCG(23, 24))
	ok, refused := map[string]int{}, map[string]int{}
	// spoil overwrites a few numbers of a value.
	var spoil func(v reflect.Value, rarely int)
	spoil = func(v reflect.Value, rarely int) {
		switch v.Kind() {
		case reflect.Int:
			if r.IntN(rarely) == 0 {
				v.SetInt(int64(hostile[r.IntN(len(hostile))]))
			}
		case reflect.Struct:
			for i := range v.NumField() {
				spoil(v.Field(i), rarely)
			}
		case reflect.Slice:
			for i := range v.Len() {
				spoil(v.Index(i), rarely)
			}
			if r.IntN(4*rarely) == 0 && v.Len() > 0 {
				v.Set(v.Slice(0, v.Len()-1))
			}
		}
	}
	tasks, _ := verdicts()
	for _, k := range tasks {
		a := anyArguments(r, k)
		v := settable(a)
		spoil(v, []int{30, 100, 400, 1000}[r.IntN(4)])
		a = v.Interface().(arguments)
		for _, c := range calls() {
			results, e := c.call(a)
			if e == api.OK {
				ok[c.name]++
				continue
			}
			refused[c.name]++
			if !isZero(reflect.ValueOf(results)) {
				t.Fatalf("%s of %v = %v, %d", c.name, a, results, e)
			}
		}
		if e := voice.CheckParts(a.Parts); e != api.OK {
			for _, c := range calls()[5:13] {
				if _, f := c.call(a); f != e {
					t.Fatalf("%s of %v: %d; the error of the parts is %d", c.name, a, f, e)
				}
			}
		}
	}
	for _, c := range calls() {
		if ok[c.name] < 200 || refused[c.name] < 200 && c.name != "Lost" {
			t.Errorf("%s: %d accepted, %d refused", c.name, ok[c.name], refused[c.name])
		}
	}
}

// R5, P0.1: any shift, and hands and instruments that are not valid.
func TestHostileShifts(t *testing.T) {
	for _, x := range hostile {
		s, e := intabulate.Intabulate(parts("67 0 96; 127 0 96; 0 0 96"), lute(), hand.Standard(), x)
		if e == api.OK != (-24 <= x && x <= 24) || e != api.OK && (e != api.ErrArg || !sameSetting(s, api.Setting{})) || e == api.OK && s.Shift != x {
			t.Errorf("Intabulate with the shift %d = %s, %d", x, shown(s), e)
		}
		h := hand.Standard()
		h.Top = x
		_, e = intabulate.Intabulate(parts("67 0 96"), lute(), h, 0)
		_, f := intabulate.Auto(parts("67 0 96"), lute(), h)
		if e != hand.Check(h) || f != e {
			t.Errorf("Intabulate for a hand with the top %d: %d, %d", x, e, f)
		}
	}
}
