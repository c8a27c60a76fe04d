package voice_test

import (
	"cmp"
	"fmt"
	"math/rand/v2"
	"reflect"
	"slices"
	"testing"

	"theorbo/api"
	"theorbo/voice"
)

// seeker is a function with limits and notes; its other arguments are as wrong as they can be, or right for these voices.
type seeker struct {
	name     string
	searches bool
	wrong    func(l api.Limits, n []api.Note) (results any, e api.Errno)
	right    func(l api.Limits, n []api.Note, voices []int) any
}

func seekers() []seeker {
	return []seeker{
		{"Valid", false, func(l api.Limits, n []api.Note) (any, api.Errno) {
			v, at, e := voice.Valid(l, n, make([]int, 6000))
			return []any{v, at}, e
		}, func(l api.Limits, n []api.Note, voices []int) any { v, _, _ := voice.Valid(l, n, voices); return v }},
		{"List", true, func(l api.Limits, n []api.Note) (any, api.Errno) {
			all, e := voice.List(l, n, 0)
			return all, e
		}, func(l api.Limits, n []api.Note, _ []int) any { all, _ := voice.List(l, n, 9); return all }},
		{"Best", true, func(l api.Limits, n []api.Note) (any, api.Errno) {
			v, e := voice.Best(l, n)
			return v, e
		}, func(l api.Limits, n []api.Note, _ []int) any { v, _ := voice.Best(l, n); return v }},
		{"Count", true, func(l api.Limits, n []api.Note) (any, api.Errno) {
			count, e := voice.Count(l, n)
			return count, e
		}, func(l api.Limits, n []api.Note, _ []int) any { count, _ := voice.Count(l, n); return count }},
		{"Stuck", true, func(l api.Limits, n []api.Note) (any, api.Errno) {
			at, e := voice.Stuck(l, n)
			return at, e
		}, func(l api.Limits, n []api.Note, _ []int) any { at, _ := voice.Stuck(l, n); return at }},
		{"Fewest", true, func(l api.Limits, n []api.Note) (any, api.Errno) {
			set, e := voice.Fewest(l, n)
			return set, e
		}, func(l api.Limits, n []api.Note, _ []int) any { set, _ := voice.Fewest(l, n); return set }},
	}
}

// isZero reports whether a result is the zero value, or an empty list, or is made of such.
func isZero(v reflect.Value) bool {
	switch v.Kind() {
	case reflect.Slice:
		for i := range v.Len() {
			if !isZero(v.Index(i)) || v.Type().Elem().Kind() != reflect.Interface {
				return false
			}
		}
		return true
	case reflect.Interface:
		return isZero(v.Elem())
	case reflect.Struct:
		for i := range v.NumField() {
			if !isZero(v.Field(i)) {
				return false
			}
		}
		return true
	}
	return v.IsZero()
}

// R1, R2: the errors of the limits and of the notes come first, in this order, and nothing with them.
func TestErrors(t *testing.T) {
	n, l, _ := examples()
	bad := l
	bad.Leap = -1
	states, many := pairs("aaaaaaaaaabbbbbbbbbbbbbbbbbbbbbbbbbbx")
	wrong := append(slices.Clone(n), n[0])
	tooMany := slices.Repeat(wrong, 2000)
	for _, s := range seekers() {
		for name, c := range map[string]struct {
			l    api.Limits
			n    []api.Note
			want api.Errno
		}{
			"no limits":                   {api.Limits{}, tooMany, api.ErrLimits},
			"bad limits":                  {bad, tooMany, api.ErrLimits},
			"bad limits and good notes":   {bad, n, api.ErrLimits},
			"too many notes":              {l, tooMany, api.ErrMany},
			"notes that are not valid":    {l, wrong, api.ErrArg},
			"notes that are not in order": {states, append(slices.Clone(many), many[0]), api.ErrArg},
			"notes that nobody may have":  {l, notes("0 1 100 0 96, 1 1 60 0 9"), api.ErrArg},
		} {
			if results, e := s.wrong(c.l, c.n); e != c.want || !isZero(reflect.ValueOf(results)) {
				t.Errorf("%s of %s = %v, %d; it should be %d", s.name, name, results, e, c.want)
			}
		}
		if results, e := s.wrong(states, many); s.name != "Fewest" && (e == api.OK || !isZero(reflect.ValueOf(results))) {
			t.Errorf("%s of many situations = %v, %d", s.name, results, e)
		}
	}
}

// R1, R2: the error of most comes behind those of the notes, and before those of the events.
func TestMost(t *testing.T) {
	n, l, _ := examples()
	bad := l
	bad.Leap = -1
	states, many := pairs("aaaaaaaaaabbbbbbbbbbbbbbbbbbbbbbbbbbx")
	stuck := notes("0 1 100 0 96")
	for name, c := range map[string]struct {
		l    api.Limits
		n    []api.Note
		most int
		want api.Errno
	}{
		"most 0":                {l, n, 0, api.ErrArg},
		"most 65":               {l, n, 65, api.ErrArg},
		"most 0, no notes":      {l, nil, 0, api.ErrArg},
		"most 0, stuck":         {l, stuck, 0, api.ErrArg},
		"most 1, stuck":         {l, stuck, 1, api.ErrNoVoices},
		"most 64, stuck":        {l, stuck, 64, api.ErrNoVoices},
		"most 65, many":         {states, many, 65, api.ErrArg},
		"most 64, many":         {states, many, 64, api.ErrMany},
		"most 65, wrong limits": {bad, many, 65, api.ErrLimits},
		"most 65, many notes":   {l, make([]api.Note, 5601), 65, api.ErrMany},
	} {
		if all, e := voice.List(c.l, c.n, c.most); e != c.want || len(all) > 0 {
			t.Errorf("List, %s: %v, %d; it should be %d", name, all, e, c.want)
		}
	}
	for _, x := range hostile {
		all, e := voice.List(l, n, x)
		if e == api.OK != (x >= 1 && x <= 64) || e != api.OK && (e != api.ErrArg || len(all) > 0) {
			t.Errorf("List with %d = %v, %d", x, all, e)
		}
	}
	if v, e := voice.Best(l, stuck); e != api.ErrNoVoices || !sameVoicing(v, api.Voicing{}) {
		t.Errorf("Best of a note that nobody may have = %v, %d", v, e)
	}
	if count, e := voice.Count(l, stuck); e != api.OK || count != 0 {
		t.Errorf("Count of a note that nobody may have = %d, %d", count, e)
	}
}

// scribble overwrites all numbers of a list, also behind its end and in the lists that it contains.
func scribble(v reflect.Value, mark int) {
	switch v.Kind() {
	case reflect.Int:
		v.SetInt(int64(7000 + mark))
	case reflect.Bool:
		v.SetBool(!v.Bool())
	case reflect.Struct:
		for i := range v.NumField() {
			scribble(v.Field(i), mark+i)
		}
	case reflect.Slice:
		list := v.Slice(0, v.Cap())
		for i := range list.Len() {
			scribble(list.Index(i), mark+i)
		}
	}
}

// whole shows a value with the room behind the ends of its lists.
func whole(v reflect.Value) string {
	t := fmt.Sprint(v.Interface())
	switch v.Kind() {
	case reflect.Struct:
		for i := range v.NumField() {
			t += whole(v.Field(i))
		}
	case reflect.Slice:
		list := v.Slice(0, v.Cap())
		for i := range list.Len() {
			t += whole(list.Index(i))
		}
	}
	return t
}

// roomy copies a list into one that has room behind its end.
func roomy[T any](l []T) []T {
	return append(make([]T, 0, len(l)+5), l...)
}

// unshared calls a function twice with the same arguments: it changes none, and its results share no memory.
func unshared(t *testing.T, name string, arguments any, call func() any) {
	t.Helper()
	kept := whole(reflect.ValueOf(arguments))
	first, second := call(), call()
	want := fmt.Sprint(second)
	if fmt.Sprint(first) != want {
		t.Fatalf("%s returns %v, then %s", name, first, want)
	}
	pointer := reflect.New(reflect.TypeOf(first)).Elem()
	pointer.Set(reflect.ValueOf(first))
	scribble(pointer, 0)
	if whole(reflect.ValueOf(arguments)) != kept {
		t.Fatalf("%s has changed, or shares, its arguments", name)
	}
	if fmt.Sprint(second) != want {
		t.Fatalf("two results of %s share memory", name)
	}
}

// R4: no argument is changed, and no result shares memory with an argument or with another result.
func TestMemory(t *testing.T) {
	tasks, verdicts := verdicts()
	for i, k := range tasks[:400] {
		voices := make([]int, len(k.n))
		if all := verdicts[i].all; len(all) > 0 {
			voices = all[0].Voices
		}
		arguments := struct {
			L      api.Limits
			N      []api.Note
			Voices []int
		}{k.l, roomy(k.n), roomy(voices)}
		arguments.L.Low, arguments.L.High = roomy(k.l.Low), roomy(k.l.High)
		l, n, voices := arguments.L, arguments.N, arguments.Voices
		for _, s := range seekers() {
			unshared(t, s.name, arguments, func() any { return s.right(l, n, voices) })
		}
		unshared(t, "Check", arguments, func() any { return int(voice.Check(l)) })
		unshared(t, "CheckNotes", arguments, func() any { return int(voice.CheckNotes(n)) })
		unshared(t, "Parts", arguments, func() any { l, _ := voice.Parts(n, voices, 5); return l })
	}
	r := rand.New(rand.NewPCG(27, 28))
	for range 200 {
		l := [][]api.Tone{roomy(anyPart(r, 6)), roomy(anyPart(r, 6)), {}, roomy(anyPart(r, 1))}
		l = l[:len(l)-r.IntN(3)]
		unshared(t, "CheckParts", l, func() any { return int(voice.CheckParts(l)) })
		unshared(t, "Sounds", l, func() any { all, _ := voice.Sounds(l); return all })
		unshared(t, "Sounds of one part", l, func() any { all, _ := voice.Sounds(l[:1]); return all })
		unshared(t, "Ambitus", l, func() any { low, high, _ := voice.Ambitus(l[0]); return []int{low, high} })
		unshared(t, "Meetings", l, func() any { all, _ := voice.Meetings(l[0], l[1]); return all })
		unshared(t, "Parallels", l, func() any { all, _ := voice.Parallels(l); return all })
		for i := range l[0] {
			l[0][i].From, l[0][i].To = 6*l[0][i].From, 6*l[0][i].To
		}
		unshared(t, "Set", l, func() any { all, _ := voice.Set(l[0], 1200); return all })
		elements, _ := voice.Set(l[0], 1200)
		elements = roomy(elements)
		unshared(t, "Unset", elements, func() any { p, _, _ := voice.Unset(elements); return p })
	}
}

// R4: no two lists of a result share memory, not even behind their ends.
func TestListsApart(t *testing.T) {
	_, first := songs(t)
	for _, l := range first {
		for i, v := range l {
			for j := range v.Voices[:cap(v.Voices)] {
				v.Voices[:cap(v.Voices)][j] = 10000*i + j
			}
		}
		for i, v := range l {
			for j, n := range v.Voices[:cap(v.Voices)] {
				if n != 10000*i+j {
					t.Fatal("two assignments of List share memory")
				}
			}
		}
	}
	n, _, _ := examples()
	l, _ := voice.Parts(n, numbers("1 2 1"), 3)
	for i, p := range l {
		for j := range p[:cap(p)] {
			p[:cap(p)][j].Pitch = 100*i + j
		}
	}
	for i, p := range l {
		for j, tone := range p[:cap(p)] {
			if tone.Pitch != 100*i+j {
				t.Fatal("two parts of Parts share memory")
			}
		}
	}
}

// R3: an empty list says what a nil one says.
func TestEmptyLists(t *testing.T) {
	_, l, _ := examples()
	for _, s := range seekers() {
		if a, b := s.right(l, nil, nil), s.right(l, []api.Note{}, []int{}); fmt.Sprint(a) != fmt.Sprint(b) {
			t.Errorf("%s of no notes: %v and %v", s.name, a, b)
		}
		if results, e := s.wrong(api.Limits{Low: []int{}, High: []int{}}, []api.Note{}); e != api.ErrLimits || !isZero(reflect.ValueOf(results)) {
			t.Errorf("%s of no voices = %v, %d", s.name, results, e)
		}
	}
	for _, none := range [][]api.Tone{nil, {}} {
		if l, e := voice.Meetings(none, part("67 0 96")); e != api.OK || len(l) > 0 {
			t.Errorf("Meetings with no tones = %v, %d", l, e)
		}
		if _, _, e := voice.Ambitus(none); e != api.ErrNone {
			t.Errorf("Ambitus of no tones: %d", e)
		}
		if l, e := voice.Set(none, 96); e != api.OK || shownWritten(l) != "% 3" {
			t.Errorf("Set of no tones = %v, %d", l, e)
		}
		if l, e := voice.Sounds([][]api.Tone{none}); e != api.OK || len(l) > 0 {
			t.Errorf("Sounds of no tones = %v, %d", l, e)
		}
	}
	for _, none := range [][][]api.Tone{nil, {}} {
		if l, e := voice.Parallels(none); e != api.OK || len(l) > 0 {
			t.Errorf("Parallels of no parts = %v, %d", l, e)
		}
		if l, e := voice.Sounds(none); e != api.OK || len(l) > 0 {
			t.Errorf("Sounds of no parts = %v, %d", l, e)
		}
	}
	if p, end, e := voice.Unset([]api.Written{}); e != api.OK || end != 0 || len(p) > 0 {
		t.Errorf("Unset of nothing = %v, %d, %d", p, end, e)
	}
}

// P0.1, R2, R5: with any numbers every call ends, and with an error returns nothing else.
func TestHostile(t *testing.T) {
	r := rand.New(rand.NewPCG(29, 30))
	one := func() int { return hostile[r.IntN(len(hostile))] }
	ok, refused := 0, 0
	tasks, _ := verdicts()
	for _, k := range tasks {
		l, n := k.l, slices.Clone(k.n)
		l.Low, l.High = slices.Clone(l.Low), slices.Clone(l.High)
		numbers := []*int{&l.Leap, &l.Gap, &l.Cross, &l.Low[0], &l.High[len(l.High)-1]}
		if len(n) > 0 {
			note := &n[r.IntN(len(n))]
			numbers = append(numbers, &note.Event, &note.Course, &note.Pitch, &note.From, &note.To)
		}
		for range r.IntN(3) {
			*numbers[r.IntN(len(numbers))] = one()
		}
		fault := cmp.Or(voice.Check(l), voice.CheckNotes(n))
		if fault == api.OK {
			ok++
		} else {
			refused++
		}
		for _, s := range seekers() {
			results, e := s.wrong(l, n)
			if fault != api.OK && e != fault || e != api.OK && !isZero(reflect.ValueOf(results)) {
				t.Fatalf("%s of %v, %v = %v, %d; the error should be %d", s.name, l, n, results, e, fault)
			}
		}
		voices := make([]int, len(n))
		for i := range voices {
			voices[i] = cmp.Or(r.IntN(4), one())
		}
		if p, e := voice.Parts(n, voices, one()); e != api.OK && len(p) > 0 {
			t.Fatalf("Parts of %v, %v = %v, %d", n, voices, p, e)
		}
		if v, _, e := voice.Valid(l, n, voices); e != api.OK && !isZero(reflect.ValueOf(v)) {
			t.Fatalf("Valid of %v, %v, %v = %v, %d", l, n, voices, v, e)
		}
	}
	if ok < 500 || refused < 500 {
		t.Errorf("%d accepted, %d refused", ok, refused)
	}
}

// P0.1, R2, R5: the same for parts.
func TestHostileParts(t *testing.T) {
	r := rand.New(rand.NewPCG(31, 32))
	one := func() int { return hostile[r.IntN(len(hostile))] }
	for range 2000 {
		l := [][]api.Tone{anyPart(r, 5), anyPart(r, 5), anyPart(r, 5)}
		for range r.IntN(3) {
			p := l[r.IntN(3)]
			if len(p) > 0 {
				tone := &p[r.IntN(len(p))]
				*[]*int{&tone.Pitch, &tone.From, &tone.To}[r.IntN(3)] = one()
			}
		}
		want := voice.CheckParts(l)
		sounds, e := voice.Sounds(l)
		parallels, f := voice.Parallels(l)
		if e != want || f != want || e != api.OK && len(sounds)+len(parallels) > 0 {
			t.Fatalf("Sounds of %v = %v, %d; Parallels %v, %d; the error should be %d", l, sounds, e, parallels, f, want)
		}
		want = voice.CheckParts(l[:1])
		low, high, e := voice.Ambitus(l[0])
		if e != want && e != api.ErrNone || e != api.OK && (low != 0 || high != 0) {
			t.Fatalf("Ambitus of %v = %d, %d, %d", l[0], low, high, e)
		}
		elements, e := voice.Set(l[0], one())
		if want != api.OK && e != want || e != api.OK && len(elements) > 0 {
			t.Fatalf("Set of %v = %v, %d", l[0], elements, e)
		}
		meetings, e := voice.Meetings(l[0], l[1])
		if e != cmp.Or(want, voice.CheckParts(l[1:2])) || e != api.OK && len(meetings) > 0 {
			t.Fatalf("Meetings of %v = %v, %d", l[:2], meetings, e)
		}
		for i := range elements {
			if r.IntN(9) == 0 {
				elements[i] = api.Written{Pitch: one(), Sign: api.Sign{Value: one(), Dot: r.IntN(2) == 0}, Tied: r.IntN(2) == 0}
			}
		}
		if p, end, e := voice.Unset(elements); e != api.OK && (end != 0 || len(p) > 0) {
			t.Fatalf("Unset of %v = %v, %d, %d", elements, p, end, e)
		}
	}
}

// P0.1: as many notes, voices and situations as there may be.
func TestLargest(t *testing.T) {
	all := limits("127 0 10", "0 0 0 0 0", "127 127 127 127 127")
	if at, e := voice.Stuck(all, largest()); at != 0 || e != api.OK {
		t.Errorf("Stuck of the greatest list = %d, %d", at, e)
	}
	// Three notes an event, each of which lasts until the event after the next: 780 situations behind each event.
	all.Gap = 10
	var n []api.Note
	for event := range api.MaxEvents {
		for course := range 3 {
			n = append(n, api.Note{Event: event, Course: course + 1, Pitch: 40 + (7*event+5*course)%40, From: 10 * event, To: 10*event + 10})
		}
	}
	l, e := voice.List(all, n, 64)
	if e != api.OK || len(l) != 64 {
		t.Fatalf("%d assignments, %d", len(l), e)
	}
	judged(t, task{all, n}, l[0].Voices)
	count, e := voice.Count(all, n)
	wants(t, "Count", count, e, api.MaxCount)
	set, e := voice.Fewest(all, n)
	wants(t, "Fewest", fmt.Sprint(set), e, "[1 2 3]")
	six := [][]api.Tone{evenly(400, 60, 600), evenly(400, 67, 600), evenly(400, 72, 600), evenly(400, 79, 600), evenly(400, 84, 600), evenly(400, 91, 600)}
	faults, e := voice.Parallels(six)
	wants(t, "Parallels", len(faults), e, 0)
	written, e := voice.Set(six[0], api.MaxTime-100)
	if e != api.ErrTime {
		t.Errorf("Set = %v, %d", written, e)
	}
}
