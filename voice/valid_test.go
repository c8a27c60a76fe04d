package voice_test

import (
	"math/rand/v2"
	"slices"
	"testing"

	"theorbo/api"
	"theorbo/voice"
)

// judgement is a call of Valid, and what it returns: an assignment as a text, or an error.
type judgement struct {
	name   string
	l      api.Limits
	n      []api.Note
	voices string
	want   string
	at     int
	e      api.Errno
}

func (j judgement) check(t *testing.T) {
	t.Helper()
	v, at, e := voice.Valid(j.l, j.n, numbers(j.voices))
	got := ""
	if e == api.OK {
		got = shownVoicings([]api.Voicing{v})
	} else if !sameVoicing(v, api.Voicing{}) {
		t.Errorf("%s: Valid(%s) = %v with an error", j.name, j.voices, v)
	}
	if got != j.want || at != j.at || e != j.e {
		t.Errorf("%s: Valid(%s) = %q, %d, %d; it should be %q, %d, %d", j.name, j.voices, got, at, e, j.want, j.at, j.e)
	}
}

// P7.1: the examples, and the rules for single notes and events at their edges.
func TestValid(t *testing.T) {
	n, l, m := examples()
	for _, j := range []judgement{
		{"M, N", m, n, "2 1 2", "2 1 2 (2, 2)", 0, api.OK},
		{"M, N", m, n, "2 1 1", "2 1 1 (1, 26)", 0, api.OK},
		{"L, N", l, n, "1 2 1", "1 2 1 (0, 2)", 0, api.OK},
		{"L, N", l, n, "1 2 2", "", 2, api.ErrVoice},
		{"L, N", l, n, "1 1 2", "", 1, api.ErrVoice},
		{"L, N", l, n, "1 2", "", 0, api.ErrArg},
		{"L, N", l, n, "1 2 1 1", "", 0, api.ErrArg},
		{"L, no notes", l, nil, "", " (0, 0)", 0, api.OK},
		{"L, no notes", l, nil, "1", "", 0, api.ErrArg},
		// Rule 1.
		{"voice 0", l, n, "0 2 1", "", 0, api.ErrVoice},
		{"voice 3", l, n, "1 3 1", "", 1, api.ErrVoice},
		{"the lowest pitch", limits("5 0 0", "67", "80"), n[:1], "1", "1 (0, 0)", 0, api.OK},
		{"too low", limits("5 0 0", "68", "80"), n[:1], "1", "", 0, api.ErrVoice},
		{"the highest pitch", limits("5 0 0", "40", "67"), n[:1], "1", "1 (0, 0)", 0, api.OK},
		{"too high", limits("5 0 0", "40", "66"), n[:1], "1", "", 0, api.ErrVoice},
		// Rule 2.
		{"one voice twice", m, n, "1 1 2", "", 1, api.ErrVoice},
		{"one voice twice, not beside", limits("127 0 10", "40 40 40", "80 80 80"), notes("0 1 67 0 9, 0 2 66 0 9, 0 3 65 0 9"), "1 2 1", "", 2, api.ErrVoice},
	} {
		j.check(t)
	}
	for _, n := range hostile {
		if v, at, e := voice.Valid(m, notes("0 1 67 0 96, 0 6 43 0 192"), []int{1, n}); (e == api.OK) != (n == 2) || e != api.OK && (at != 1 || len(v.Voices) > 0) {
			t.Errorf("Valid of 1 %d = %v, %d, %d", n, v, at, e)
		}
	}
}

// P7.1: leaps and crossings, between notes that follow each other closely or not.
func TestValidMoves(t *testing.T) {
	pair := func(other string) api.Limits { return limits(other, "40 40", "80 80") }
	for _, j := range []judgement{
		// Rule 3.
		{"a leap", pair("5 0 0"), notes("0 1 60 0 9, 1 1 65 9 18"), "1 1", "1 1 (0, 5)", 0, api.OK},
		{"a leap downward", pair("5 0 0"), notes("0 1 65 0 9, 1 1 60 9 18"), "1 1", "1 1 (0, 5)", 0, api.OK},
		{"too great a leap", pair("5 0 0"), notes("0 1 60 0 9, 1 1 66 9 18"), "1 1", "", 1, api.ErrVoice},
		{"too great a leap downward", pair("5 0 0"), notes("0 1 66 0 9, 1 1 60 9 18"), "1 1", "", 1, api.ErrVoice},
		{"a pause of Gap", pair("5 4 0"), notes("0 1 60 0 9, 1 1 66 13 18"), "1 1", "", 1, api.ErrVoice},
		{"a longer pause", pair("5 4 0"), notes("0 1 60 0 9, 1 1 66 14 18"), "1 1", "1 1 (0, 0)", 0, api.OK},
		{"a note that still sounds", pair("5 0 0"), notes("0 1 60 0 19, 1 1 66 14 18"), "1 1", "", 1, api.ErrVoice},
		{"an event without the voice", pair("5 9 0"), notes("0 1 60 0 9, 1 1 62 9 12, 2 1 66 12 18"), "1 2 1", "", 2, api.ErrVoice},
		{"a leap from the last note, not from the one before", pair("5 99 0"), notes("0 1 60 0 9, 1 1 65 9 12, 2 1 70 12 18"), "1 1 1", "1 1 1 (0, 10)", 0, api.OK},
		// Rule 4.
		{"a crossing", pair("127 0 1"), notes("0 1 60 0 9, 0 2 61 0 9"), "1 2", "1 2 (1, 0)", 0, api.OK},
		{"one crossing too many", pair("127 0 0"), notes("0 1 60 0 9, 0 2 61 0 9"), "1 2", "", 1, api.ErrVoice},
		{"a last note that sounds", pair("127 0 1"), notes("0 1 60 0 10, 1 2 61 9 18"), "1 2", "1 2 (1, 0)", 0, api.OK},
		{"a last note that has ended", pair("127 9 0"), notes("0 1 60 0 9, 1 2 61 9 18"), "1 2", "1 2 (0, 0)", 0, api.OK},
		{"a last note under a new one", pair("127 0 0"), notes("0 1 60 0 30, 1 1 62 9 18, 2 1 61 18 20"), "1 1 2", "1 1 2 (0, 2)", 0, api.OK},
		{"a note behind the crossing", pair("127 0 0"), notes("0 1 60 0 9, 0 2 61 0 9, 0 3 90 0 9"), "1 2 2", "", 2, api.ErrVoice},
		{"a note before the crossing", pair("127 0 0"), notes("0 1 90 0 9, 0 2 61 0 9"), "1 2", "", 0, api.ErrVoice},
		{"all voices crossed", limits("0 0 10", "0 0 0 0 0", "99 99 99 99 99"), notes("0 1 1 0 9, 0 2 2 0 9, 0 3 3 0 9, 0 4 4 0 9, 0 5 5 0 9"), "1 2 3 4 5", "1 2 3 4 5 (10, 0)", 0, api.OK},
		{"all voices crossed, Cross 9", limits("0 0 9", "0 0 0 0 0", "99 99 99 99 99"), notes("0 1 1 0 9, 0 2 2 0 9, 0 3 3 0 9, 0 4 4 0 9, 0 5 5 0 9"), "1 2 3 4 5", "", 4, api.ErrVoice},
	} {
		j.check(t)
	}
}

// P7.1: any assignments, judged by the document.
func TestValidOfAny(t *testing.T) {
	r := rand.New(rand.NewPCG(5, 6))
	valid, refused := 0, 0
	tasks, verdicts := verdicts()
	for i, k := range tasks {
		for range 6 {
			voices := make([]int, len(k.n))
			for i := range voices {
				voices[i] = 1 + r.IntN(len(k.l.Low))
			}
			if all := verdicts[i].all; len(all) > 0 && r.IntN(3) > 0 {
				voices = slices.Clone(all[r.IntN(len(all))].Voices)
				for range r.IntN(3) {
					if len(voices) > 0 {
						voices[r.IntN(len(voices))] = r.IntN(len(k.l.Low) + 2)
					}
				}
			}
			want, wantAt, ok := judge(k.l, k.n, voices)
			wantErr := api.OK
			if !ok {
				wantErr = api.ErrVoice
				refused++
			} else {
				valid++
			}
			if v, at, e := voice.Valid(k.l, k.n, voices); !sameVoicing(v, want) || at != wantAt || e != wantErr {
				t.Fatalf("Valid of %v, %v = %v, %d, %d; it should be %v, %d, %d", k, voices, v, at, e, want, wantAt, wantErr)
			}
		}
	}
	if valid < 2000 || refused < 2000 {
		t.Errorf("only %d valid, %d refused", valid, refused)
	}
}
