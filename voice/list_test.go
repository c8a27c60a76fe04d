package voice_test

import (
	"fmt"
	"math/rand/v2"
	"slices"
	"strings"
	"testing"

	"theorbo/api"
	"theorbo/voice"
)

// P7.2: the examples, and the order of assignments.
func TestList(t *testing.T) {
	n, l, m := examples()
	for _, c := range []struct {
		name string
		l    api.Limits
		n    []api.Note
		most int
		want string
	}{
		{"L, N", l, n, 64, "1 2 1 (0, 2)"},
		{"M, N", m, n, 64, "1 2 1 (0, 2); 1 2 2 (0, 26); 2 1 1 (1, 26); 2 1 2 (2, 2)"},
		{"M, N", m, n, 4, "1 2 1 (0, 2); 1 2 2 (0, 26); 2 1 1 (1, 26); 2 1 2 (2, 2)"},
		{"M, N", m, n, 3, "1 2 1 (0, 2); 1 2 2 (0, 26); 2 1 1 (1, 26)"},
		{"M, N", m, n, 1, "1 2 1 (0, 2)"},
		{"no notes", l, nil, 64, " (0, 0)"},
		{"one note", m, n[:1], 64, "1 (0, 0); 2 (0, 0)"},
		{"one event", m, n[:2], 64, "1 2 (0, 0); 2 1 (1, 0)"},
		// Two notes of the same pitch do not cross.
		{"unisons", limits("0 0 0", "40 40", "80 80"), notes("0 1 67 0 96, 0 2 67 0 96"), 64, "1 2 (0, 0); 2 1 (0, 0)"},
		// Fewer crossings come before less motion, and less motion before lower numbers.
		{"motion", limits("127 0 0", "40 40", "80 80"), notes("0 1 67 0 9, 0 2 60 0 9, 1 1 62 9 18"), 64, "1 2 2 (0, 2); 1 2 1 (0, 5)"},
		{"crossings", limits("127 0 1", "40 40", "80 80"), notes("0 1 60 0 9, 1 1 67 9 18, 1 2 60 9 18"), 64, "2 1 2 (0, 0); 1 1 2 (0, 7); 1 2 1 (1, 0); 2 2 1 (1, 7)"},
	} {
		got, e := voice.List(c.l, c.n, c.most)
		wants(t, fmt.Sprintf("List(%s, %d)", c.name, c.most), shownVoicings(got), e, c.want)
	}
	best, e := voice.Best(l, n)
	wants(t, "Best(L, N)", shownVoicings([]api.Voicing{best}), e, "1 2 1 (0, 2)")
	count, e := voice.Count(l, n)
	wants(t, "Count(L, N)", count, e, 1)
	count, e = voice.Count(m, n)
	wants(t, "Count(M, N)", count, e, 4)
}

// P7.2: the first assignments, the first one and the number of all, against all that there are.
func TestListOfAll(t *testing.T) {
	r := rand.New(rand.NewPCG(3, 4))
	tasks, verdicts := verdicts()
	seen := map[api.Errno]int{}
	long, crossed, equal := 0, 0, 0
	for i, k := range tasks {
		d := verdicts[i]
		seen[d.e]++
		for _, most := range []int{1, 2, 1 + r.IntN(64), 63, 64} {
			first := d.all[:min(most, len(d.all))]
			if l, e := voice.List(k.l, k.n, most); e != d.e || !slices.EqualFunc(l, first, sameVoicing) {
				t.Fatalf("List of %v with %d\n = %s, %d; it should be\n %s, %d", k, most, shownVoicings(l), e, shownVoicings(first), d.e)
			}
		}
		var first api.Voicing
		if len(d.all) > 0 {
			first = d.all[0]
		}
		if v, e := voice.Best(k.l, k.n); e != d.e || !sameVoicing(v, first) {
			t.Fatalf("Best of %v = %v, %d; it should be %v, %d", k, v, e, first, d.e)
		}
		wantErr := d.e
		if wantErr == api.ErrNoVoices {
			wantErr = api.OK
		}
		if n, e := voice.Count(k.l, k.n); e != wantErr || n != len(d.all) {
			t.Fatalf("Count of %v = %d, %d; it should be %d, %d", k, n, e, len(d.all), wantErr)
		}
		if len(d.all) > 64 {
			long++
		}
		if first.Crossings > 0 {
			crossed++
		}
		if len(d.all) > 1 && d.all[1].Crossings == first.Crossings && d.all[1].Motion == first.Motion {
			equal++
		}
	}
	if long < 100 || crossed < 100 || equal < 300 || seen[api.ErrNoVoices] < 100 || seen[api.ErrMany] < 10 {
		t.Errorf("only %d long, %d crossed, %d equal, errors %v", long, crossed, equal, seen)
	}
}

// repeated returns notes of one pitch that follow each other at a distance, and last as long as the distance.
func repeated(count, pitch, distance int) []api.Note {
	var n []api.Note
	for i := range count {
		n = append(n, api.Note{Event: i, Course: 1, Pitch: pitch, From: i * distance, To: (i + 1) * distance})
	}
	return n
}

// P7.2: the number of assignments, up to MaxCount.
func TestCount(t *testing.T) {
	free := limits("127 0 10", "0 0", "127 127")
	for count, want := range map[int]int{0: 1, 1: 2, 10: 1 << 10, 39: 1 << 39, 40: 1 << 40, 41: 1 << 40, 400: 1 << 40} {
		got, e := voice.Count(free, repeated(count, 60, 10))
		wants(t, fmt.Sprintf("Count of %d notes", count), got, e, want)
	}
	three := limits("127 0 10", "0 0 0", "127 127 127")
	got, e := voice.Count(three, repeated(25, 60, 10))
	wants(t, "Count of 25 notes and 3 voices", got, e, 847288609443)
	got, e = voice.Count(three, repeated(26, 60, 10))
	wants(t, "Count of 26 notes and 3 voices", got, e, api.MaxCount)
	// All of them may lead to one situation, or to none.
	narrow := limits("127 0 10", "60 0", "60 60")
	for count, want := range map[int]int{39: 1 << 39, 40: 1 << 40, 41: 1 << 40, 100: 1 << 40} {
		got, e := voice.Count(narrow, append(repeated(count, 60, 10), api.Note{Event: 399, Course: 1, Pitch: 59, From: 100000, To: 100001}))
		wants(t, fmt.Sprintf("Count of %d notes and one more", count), got, e, want)
		got, e = voice.Count(narrow, append(repeated(count, 60, 10), api.Note{Event: 399, Course: 1, Pitch: 61, From: 100000, To: 100001}))
		wants(t, fmt.Sprintf("Count of %d notes and an impossible one", count), got, e, 0)
	}
}

// pairs returns limits of two pairs of voices and a fifth voice, and a note for each letter of a text: a for both voices of the first pair, A for the first of them alone, b and B likewise for the second pair, x for the fifth voice.
func pairs(text string) (api.Limits, []api.Note) {
	var n []api.Note
	for i := range len(text) {
		pitch := strings.IndexByte("aA bB x", text[i]) * 10
		n = append(n, api.Note{Event: i, Course: 1 + i%3, Pitch: pitch, From: i, To: i + 1})
	}
	return limits("127 262144 10", "0 0 30 30 60", "10 0 40 30 60"), n
}

// P7.2, P7.3: as many situations as MaxStates may lie behind an event.
func TestStates(t *testing.T) {
	as := func(count int) string { return strings.Repeat("a", count) }
	bs := func(count int) string { return strings.Repeat("b", count) }
	// k notes for both voices of a pair make 2k situations: the last note is that of either voice, and the other voice has one of the others, or none.
	// Behind a note for the first voice alone the other one has any note that was for both, or none.
	// If such a note comes first, and again behind one for both, k more for both make 2k + 1 situations.
	for _, c := range []struct {
		notes string
		want  api.Errno
	}{
		{as(10) + bs(25) + "x", api.OK},              // 20 * 50
		{as(10) + bs(25) + "xx", api.OK},             // the note x does not add any
		{as(10) + bs(26), api.OK},                    // 20 * 52, but behind the last event
		{as(10) + bs(26) + "x", api.ErrMany},         // 20 * 52
		{as(6) + "A" + "B" + bs(1), api.OK},          // 7 * 2
		{as(6) + "ABbB" + bs(70) + "x", api.OK},      // 7 * 141 = 987
		{as(6) + "ABbB" + bs(71), api.OK},            // behind the last event
		{as(6) + "ABbB" + bs(71) + "x", api.ErrMany}, // 7 * 143 = 1001
	} {
		l, n := pairs(c.notes)
		if _, e := voice.List(l, n, 1); e != c.want {
			t.Errorf("List of %s: %d; it should be %d", c.notes, e, c.want)
		}
		if _, e := voice.Best(l, n); e != c.want {
			t.Errorf("Best of %s: %d; it should be %d", c.notes, e, c.want)
		}
		if _, e := voice.Count(l, n); e != c.want {
			t.Errorf("Count of %s: %d; it should be %d", c.notes, e, c.want)
		}
		want := c.want
		if want == api.OK {
			want = api.ErrNone
		}
		if at, e := voice.Stuck(l, n); at != 0 || e != want {
			t.Errorf("Stuck of %s = %d, %d; it should be %d", c.notes, at, e, want)
		}
	}
}

// P7.2, P7.3: the first event with an error decides.
func TestFirstError(t *testing.T) {
	many := strings.Repeat("a", 10) + strings.Repeat("b", 26)
	l, n := pairs(many + "x")
	high := n[len(n)-1]
	high.Pitch = 100
	// A note that no voice may have, before the event behind which there are too many situations, at it, and behind it.
	for at, want := range map[int]api.Errno{0: api.ErrNoVoices, 20: api.ErrNoVoices, 35: api.ErrNoVoices, 36: api.ErrMany} {
		wrong := slices.Clone(n)
		wrong[at].Pitch = high.Pitch
		if _, e := voice.Best(l, wrong); e != want {
			t.Errorf("Best with an impossible note %d: %d; it should be %d", at, e, want)
		}
		event, e := voice.Stuck(l, wrong)
		if want == api.ErrMany && (e != want || event != 0) || want == api.ErrNoVoices && (e != api.OK || event != at) {
			t.Errorf("Stuck with an impossible note %d = %d, %d", at, event, e)
		}
		count, e := voice.Count(l, wrong)
		if count != 0 || want == api.ErrMany && e != want || want == api.ErrNoVoices && e != api.OK {
			t.Errorf("Count with an impossible note %d = %d, %d", at, count, e)
		}
	}
}
