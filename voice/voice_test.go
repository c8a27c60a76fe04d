package voice_test

import (
	"fmt"
	"slices"
	"testing"

	"theorbo/api"
	"theorbo/voice"
)

// P7.1: limits, each at the ends of its range.
func TestCheck(t *testing.T) {
	for _, c := range []struct {
		other, low, high string
		want             api.Errno
	}{
		{"5 0 0", "60 40", "80 60", api.OK},
		{"0 0 0", "0", "0", api.OK},
		{"127 262144 10", "127 0 0 0 0", "127 127 127 127 0", api.OK},
		{"5 0 0", "", "", api.ErrLimits},
		{"5 0 0", "1 1 1 1 1 1", "2 2 2 2 2 2", api.ErrLimits},
		{"5 0 0", "60 40", "80", api.ErrLimits},
		{"5 0 0", "60", "80 60", api.ErrLimits},
		{"5 0 0", "60", "", api.ErrLimits},
		{"5 0 0", "60 40", "80 39", api.ErrLimits},
		{"5 0 0", "60 40", "59 60", api.ErrLimits},
		{"5 0 0", "60 -1", "80 60", api.ErrLimits},
		{"5 0 0", "60 40", "128 60", api.ErrLimits},
		{"-1 0 0", "60", "80", api.ErrLimits},
		{"128 0 0", "60", "80", api.ErrLimits},
		{"5 -1 0", "60", "80", api.ErrLimits},
		{"5 262145 0", "60", "80", api.ErrLimits},
		{"5 0 -1", "60", "80", api.ErrLimits},
		{"5 0 11", "60", "80", api.ErrLimits},
	} {
		if e := voice.Check(limits(c.other, c.low, c.high)); e != c.want {
			t.Errorf("Check(%s; %s; %s) = %d; it should be %d", c.other, c.low, c.high, e, c.want)
		}
	}
	inRange := func(ok bool) api.Errno {
		if ok {
			return api.OK
		}
		return api.ErrLimits
	}
	for _, n := range hostile {
		for _, c := range []struct {
			name string
			l    api.Limits
			want api.Errno
		}{
			{"Leap", api.Limits{Low: []int{0}, High: []int{0}, Leap: n}, inRange(n >= 0 && n <= 127)},
			{"Gap", api.Limits{Low: []int{0}, High: []int{0}, Gap: n}, inRange(n >= 0 && n <= 262144)},
			{"Cross", api.Limits{Low: []int{0}, High: []int{0}, Cross: n}, inRange(n >= 0 && n <= 10)},
			{"Low", api.Limits{Low: []int{0, n}, High: []int{127, 127}}, inRange(n >= 0 && n <= 127)},
			{"High", api.Limits{Low: []int{0, 0}, High: []int{127, n}}, inRange(n >= 0 && n <= 127)},
		} {
			if e := voice.Check(c.l); e != c.want {
				t.Errorf("Check with %s %d = %d; it should be %d", c.name, n, e, c.want)
			}
		}
	}
}

// largest returns as many notes as there may be.
func largest() []api.Note {
	var n []api.Note
	for event := range api.MaxEvents {
		for course := range api.MaxCourses {
			n = append(n, api.Note{Event: event, Course: course + 1, Pitch: 60 + course, From: event, To: event + 1})
		}
	}
	return n
}

// P7.1: notes, each number at the ends of its range, and their order.
func TestCheckNotes(t *testing.T) {
	for text, want := range map[string]api.Errno{
		"":                                   api.OK,
		"0 1 0 0 1":                          api.OK,
		"399 14 127 262143 262144":           api.OK,
		"0 1 67 0 96, 0 6 43 0 192":          api.OK,
		"0 1 67 0 96, 0 1 43 0 192":          api.ErrArg,
		"0 6 43 0 192, 0 1 67 0 96":          api.ErrArg,
		"0 1 67 0 96, 0 6 43 1 192":          api.ErrArg,
		"3 1 67 0 96, 5 1 43 1 192":          api.OK,
		"3 6 67 0 96, 5 1 43 1 192":          api.OK,
		"3 1 67 0 96, 5 1 43 0 192":          api.ErrArg,
		"3 1 67 5 96, 5 1 43 4 192":          api.ErrArg,
		"5 1 67 0 96, 3 1 43 1 192":          api.ErrArg,
		"5 1 67 0 96, 3 2 43 0 192":          api.ErrArg,
		"-1 1 67 0 96":                       api.ErrArg,
		"400 1 67 0 96":                      api.ErrArg,
		"0 0 67 0 96":                        api.ErrArg,
		"0 15 67 0 96":                       api.ErrArg,
		"0 1 -1 0 96":                        api.ErrArg,
		"0 1 128 0 96":                       api.ErrArg,
		"0 1 67 -1 96":                       api.ErrArg,
		"0 1 67 96 96":                       api.ErrArg,
		"0 1 67 97 96":                       api.ErrArg,
		"0 1 67 0 262145":                    api.ErrArg,
		"0 1 67 0 96, 1 1 67 9 9":            api.ErrArg,
		"0 1 67 0 96, 1 1 9 9 90, 1 2 9 9 9": api.ErrArg,
	} {
		if e := voice.CheckNotes(notes(text)); e != want {
			t.Errorf("CheckNotes of %s = %d; it should be %d", text, e, want)
		}
	}
	n := largest()
	if e := voice.CheckNotes(n); e != api.OK {
		t.Errorf("CheckNotes of %d notes = %d", len(n), e)
	}
	if e := voice.CheckNotes(append(n, api.Note{})); e != api.ErrMany {
		t.Errorf("CheckNotes of %d notes = %d", len(n)+1, e)
	}
	for _, number := range hostile {
		for i, greatest := range []int{399, 14, 127, 0, 262144} {
			fields := []int{1, 1, 1, 0, 9}
			fields[i] = number
			want := api.ErrArg
			least := []int{0, 1, 0, 0, 1}[i]
			if number >= least && number <= greatest {
				want = api.OK
			}
			one := api.Note{Event: fields[0], Course: fields[1], Pitch: fields[2], From: fields[3], To: fields[4]}
			if fields[3] >= 1 && fields[3] < 9 {
				want = api.OK
			}
			if e := voice.CheckNotes([]api.Note{one}); e != want {
				t.Errorf("CheckNotes of %v = %d; it should be %d", one, e, want)
			}
		}
	}
}

// evenly returns a part of so many tones that follow each other.
func evenly(count, pitch, length int) []api.Tone {
	var p []api.Tone
	for i := range count {
		p = append(p, api.Tone{Pitch: pitch, From: i * length, To: (i + 1) * length})
	}
	return p
}

// P7.1: parts, each number at the ends of its range, and their order.
func TestCheckParts(t *testing.T) {
	for text, want := range map[string]api.Errno{
		"":                                   api.OK,
		";;;;;":                              api.OK,
		";;;;;;":                             api.ErrMany,
		"0 0 1; 127 262143 262144":           api.OK,
		"67 0 96, 69 96 192":                 api.OK,
		"67 0 96, 69 100 192":                api.OK,
		"67 0 96, 69 95 192":                 api.ErrPart,
		"67 100 192, 69 0 96":                api.ErrPart,
		"67 0 96; 69 0 96":                   api.OK,
		"67 0 96; 69 96 96":                  api.ErrPart,
		"67 97 96":                           api.ErrPart,
		"67 -1 96":                           api.ErrPart,
		"67 0 262145":                        api.ErrPart,
		"-1 0 96":                            api.ErrPart,
		"128 0 96":                           api.ErrPart,
		"128 0 96;;;;;;":                     api.ErrMany,
		"67 0 96; 67 0 96; 67 0 96; 1 1 1;;": api.ErrPart,
	} {
		if e := voice.CheckParts(parts(text)); e != want {
			t.Errorf("CheckParts of %s = %d; it should be %d", text, e, want)
		}
	}
	if e := voice.CheckParts(nil); e != api.OK {
		t.Errorf("CheckParts of no parts = %d", e)
	}
	just, over := evenly(400, 60, 10), evenly(401, 60, 10)
	bad := part("128 0 96")
	for i, c := range []struct {
		l    [][]api.Tone
		want api.Errno
	}{
		{[][]api.Tone{just, just, just, just, just, just}, api.OK},
		{[][]api.Tone{just, just, just, just, just, over}, api.ErrMany},
		{[][]api.Tone{over}, api.ErrMany},
		{[][]api.Tone{bad, over}, api.ErrMany},
		{[][]api.Tone{bad, just}, api.ErrPart},
		{[][]api.Tone{just, bad}, api.ErrPart},
	} {
		if e := voice.CheckParts(c.l); e != c.want {
			t.Errorf("CheckParts, %d: %d; it should be %d", i, e, c.want)
		}
	}
	for _, n := range hostile {
		for _, tone := range []api.Tone{{Pitch: n, To: 9}, {From: n, To: 262144}, {To: n}} {
			want := api.ErrPart
			if tone.Pitch >= 0 && tone.Pitch <= 127 && tone.From >= 0 && tone.From < tone.To && tone.To <= 262144 {
				want = api.OK
			}
			if e := voice.CheckParts([][]api.Tone{{tone}}); e != want {
				t.Errorf("CheckParts of %v = %d; it should be %d", tone, e, want)
			}
		}
	}
}

// P7.3: the examples, and the event that has no assignment.
func TestStuck(t *testing.T) {
	n, l, m := examples()
	narrow := l
	narrow.Leap = 1
	for _, c := range []struct {
		name string
		l    api.Limits
		n    []api.Note
		at   int
		e    api.Errno
	}{
		{"L, N", l, n, 0, api.ErrNone},
		{"M, N", m, n, 0, api.ErrNone},
		{"L with Leap 1, N", narrow, n, 1, api.OK},
		{"no notes", l, nil, 0, api.ErrNone},
		{"the first event", l, notes("7 1 100 0 96, 9 1 67 96 192"), 7, api.OK},
		{"more notes than voices", l, notes("3 1 67 0 96, 5 1 67 96 192, 5 2 66 96 192, 5 3 50 96 192, 6 1 67 192 200"), 5, api.OK},
		{"the last event", l, notes("0 1 67 0 96, 1 1 67 96 192, 399 1 100 192 200"), 399, api.OK},
		{"as many notes as there may be", l, largest(), 0, api.OK},
	} {
		if at, e := voice.Stuck(c.l, c.n); at != c.at || e != c.e {
			t.Errorf("%s: Stuck = %d, %d; it should be %d, %d", c.name, at, e, c.at, c.e)
		}
	}
}

// P7.3: the event that has no assignment, against all assignments.
func TestStuckOfAny(t *testing.T) {
	tasks, verdicts := verdicts()
	for i, k := range tasks {
		d := verdicts[i]
		want, wantErr := 0, d.e
		switch d.e {
		case api.OK:
			wantErr = api.ErrNone
		case api.ErrNoVoices:
			want, wantErr = d.event, api.OK
		}
		if at, e := voice.Stuck(k.l, k.n); at != want || e != wantErr {
			t.Fatalf("Stuck of %v = %d, %d; it should be %d, %d", k, at, e, want, wantErr)
		}
	}
}

// P7.3: the smallest set of voices.
func TestFewest(t *testing.T) {
	n, l, m := examples()
	states, many := pairs("aaaaaaaaaabbbbbbbbbbbbbbbbbbbbbbbbbbx")
	for _, c := range []struct {
		name string
		l    api.Limits
		n    []api.Note
		want string
		e    api.Errno
	}{
		{"L, N", l, n, "[1 2]", api.OK},
		{"M, N", m, n, "[1 2]", api.OK},
		{"no notes", l, nil, "[]", api.OK},
		{"one note", m, n[:1], "[1]", api.OK},
		{"one note for the second voice", l, n[1:2], "[2]", api.OK},
		{"none", l, notes("0 1 100 0 96"), "[]", api.ErrNoVoices},
		// Of several sets of the same size the first one.
		{"three voices", limits("127 0 10", "60 40 40", "80 70 80"), notes("0 1 67 0 96, 0 2 45 0 96"), "[1 2]", api.OK},
		{"three voices, not 1 and 2", limits("127 0 10", "60 50 40", "80 70 80"), notes("0 1 67 0 96, 0 2 45 0 96"), "[1 3]", api.OK},
		{"three voices, not the first one", limits("127 0 10", "90 40 40", "99 70 80"), notes("0 1 67 0 96, 0 2 45 0 96"), "[2 3]", api.OK},
		{"five voices", limits("127 0 10", "0 0 0 0 0", "99 99 99 99 99"), notes("0 1 67 0 96, 0 2 45 0 96, 0 3 9 0 96, 0 4 9 0 96"), "[1 2 3 4]", api.OK},
		{"all five voices", limits("127 0 10", "0 0 0 0 0", "99 99 99 99 99"), notes("0 1 67 0 96, 0 2 45 0 96, 0 3 9 0 96, 0 4 9 0 96, 0 5 9 0 96"), "[1 2 3 4 5]", api.OK},
		// The voices that are left keep their order: more crossings with less voices there are not.
		{"crossings", limits("0 0 0", "60 40 40", "60 40 50"), notes("0 1 40 0 96, 0 2 60 0 96"), "[1 2]", api.OK},
		{"crossings alone", limits("0 0 0", "40 60", "40 60"), notes("0 1 40 0 96, 0 2 60 0 96"), "[]", api.ErrNoVoices},
		// The voices 1, 3 and 5 are enough, but other sets of three come before.
		{"many situations with all", states, many, "[1 3 5]", api.OK},
	} {
		got, e := voice.Fewest(c.l, c.n)
		if fmt.Sprint(got) != c.want || e != c.e {
			t.Errorf("%s: Fewest = %v, %d; it should be %s, %d", c.name, got, e, c.want, c.e)
		}
	}
}

// P7.3: ErrMany at a set, unless one before it suffices.
func TestFewestOfMany(t *testing.T) {
	l, n := pairs("aaaaaaaaaabbbbbbbbbbbbbbbbbbbbbbbbbbx")
	// The set 1 2 3 4 has no voice for the note x, but too many situations before it.
	last := n[len(n)-1]
	at := func(pitches ...int) []api.Note {
		var more []api.Note
		for i, pitch := range pitches {
			more = append(more, api.Note{Event: last.Event + 1, Course: i + 1, Pitch: pitch, From: last.To, To: last.To + 1})
		}
		return append(slices.Clone(n), more...)
	}
	for _, c := range []struct {
		n    []api.Note
		want string
		e    api.Errno
	}{
		{at(0, 30), "[1 3 5]", api.OK},
		{at(0, 0), "[]", api.ErrMany},
		{at(30, 30), "[]", api.ErrMany},
		{at(0, 0, 30, 30), "[]", api.ErrMany},
		{at(100), "[]", api.ErrMany},
	} {
		if got, e := voice.Fewest(l, c.n); fmt.Sprint(got) != c.want || e != c.e {
			t.Errorf("Fewest of %v = %v, %d; it should be %s, %d", c.n[len(n):], got, e, c.want, c.e)
		}
	}
}

// subsets returns the sets of voices in the order in which Fewest tries them.
func subsets(size, from, n int) [][]int {
	if size == 0 {
		return [][]int{nil}
	}
	var all [][]int
	for v := from; v <= n; v++ {
		for _, rest := range subsets(size-1, v+1, n) {
			all = append(all, append([]int{v}, rest...))
		}
	}
	return all
}

// P7.3: the smallest set of voices, against all sets and all assignments.
func TestFewestOfAny(t *testing.T) {
	sizes := map[int]int{}
	tasks, _ := verdicts()
tasks:
	for _, k := range tasks {
		var want []int
		wantErr := api.ErrNoVoices
	sets:
		for size := 1; size <= len(k.l.Low); size++ {
			for _, set := range subsets(size, 1, len(k.l.Low)) {
				kept := api.Limits{Leap: k.l.Leap, Gap: k.l.Gap, Cross: k.l.Cross}
				for _, v := range set {
					kept.Low, kept.High = append(kept.Low, k.l.Low[v-1]), append(kept.High, k.l.High[v-1])
				}
				d, done := decide(kept, k.n)
				if !done {
					continue tasks
				}
				if d.e != api.ErrNoVoices {
					want, wantErr = set, d.e
					break sets
				}
			}
		}
		if len(k.n) == 0 || wantErr == api.ErrMany {
			want = nil
		}
		if got, e := voice.Fewest(k.l, k.n); !slices.Equal(got, want) || e != wantErr {
			t.Fatalf("Fewest of %v = %v, %d; it should be %v, %d", k, got, e, want, wantErr)
		}
		sizes[len(want)]++
	}
	for size := range 5 {
		if sizes[size] < 20 {
			t.Errorf("only few sets of a size: %v", sizes)
		}
	}
}
