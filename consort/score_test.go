package consort_test

import (
	"fmt"
	"math/rand/v2"
	"slices"
	"testing"
	"time"

	"theorbo/api"
	"theorbo/consort"
	"theorbo/piece"
	"theorbo/sound"
)

// P9.3: a cue for each event, also for rests and ties, in order of the times, then of the desks.
func TestScore(t *testing.T) {
	for _, c := range []struct{ pieces, want string }{
		{"M a -; M c - / S - a", "[{0 0 0} {0 1 0} {96 0 1}]"},
		{"", "[]"},
		{"/", "[]"},
		{"M %", "[{0 0 0}]"},
		{"C %; Q a -; - ~ / X a -; Q. - a; C % / M %", "[{0 0 0} {0 1 0} {0 2 0} {12 1 1} {48 0 1} {48 1 2} {72 0 2}]"},
	} {
		l, e := consort.Score(reads(pair, c.pieces))
		wants(t, "Score of "+c.pieces, l, e, c.want)
	}
	for _, c := range consorts(9, 200) {
		l, e := consort.Score(c)
		if e != api.OK || !slices.IsSortedFunc(l, func(a, b api.Cue) int {
			if a.Time != b.Time {
				return a.Time - b.Time
			}
			return a.Desk - b.Desk
		}) {
			t.Fatalf("Score of %v = %v, %d", c, l, e)
		}
		count := 0
		for desk, p := range c.Pieces {
			onsets, _ := piece.Onsets(p)
			count += len(p.Events)
			for event := range p.Events {
				if !slices.Contains(l, api.Cue{Time: onsets[event], Desk: desk, Event: event}) {
					t.Fatalf("Score of %v = %v without the event %d of the desk %d", c, l, event, desk)
				}
			}
		}
		if count != len(l) {
			t.Fatalf("Score of %v = %v", c, l)
		}
	}
}

// P9.3: the tones of all desks, in order of From, Pitch and To, without octave strings; equal ones as often as they occur.
func TestSounds(t *testing.T) {
	l, e := consort.Sounds(example())
	wants(t, "Sounds of the example", l, e, "[{43 0 192} {67 0 96} {69 96 192}]")
	for _, c := range []struct{ pieces, want string }{
		{"", "[]"},
		{"M % / M %", "[]"},
		{"M a - / M a - / C a -; C %", "[{60 0 48} {60 0 96} {60 0 96}]"},
		{"S a b / M a -; M c -", "[{56 0 192} {60 0 96} {60 0 192} {62 96 192}]"},
		{"M c -; M - a / M - b; M a -", "[{56 0 96} {62 0 96} {55 96 192} {60 96 192}]"},
	} {
		l, e := consort.Sounds(reads(pair, c.pieces))
		wants(t, "Sounds of "+c.pieces, l, e, c.want)
	}
	for _, c := range consorts(10, 200) {
		l, e := consort.Sounds(c)
		var want []api.Tone
		for _, p := range c.Pieces {
			own, _ := sound.Tones(p)
			for _, tone := range own {
				at := 0
				for at < len(want) && !earlier(tone, want[at]) {
					at++
				}
				want = slices.Insert(want, at, tone)
			}
		}
		wants(t, fmt.Sprint("Sounds of ", c), l, e, fmt.Sprint(want))
	}
}

// earlier reports whether a tone stands before another one.
func earlier(a, b api.Tone) bool {
	if a.From != b.From {
		return a.From < b.From
	}
	if a.Pitch != b.Pitch {
		return a.Pitch < b.Pitch
	}
	return a.To < b.To
}

// P9.3: what sounds together on all desks when a note begins.
func TestDiscords(t *testing.T) {
	l, e := consort.Discords(example())
	wants(t, "Discords of the example", l, e, "[96]")
	for _, c := range []struct{ name, pieces, want string }{
		{"nothing", "", "[]"},
		{"rests", "M % / M %", "[]"},
		{"concords", "M a -; M d - / M - f; M a -", "[]"},
		{"a desk alone", "M a a; M d -; - f -", "[0 192]"},
		{"a tie in a discord", "M a a; - ~", "[0]"},
		{"a rest in a discord", "M a a; - ~ / M %; - %", "[0]"},
		{"a note behind a discord", "C a a; - %; - a - / M %; C %", "[0]"},
		{"two desks", "S a - / M %; M - a", "[96]"},
		{"one time of two desks", "M %; M a - / M %; M - a / S %", "[96]"},
		{"other times than those of both desks", "M a -; M d - / C - f; - - d; - - a; - - c", "[48 144]"},
	} {
		l, e := consort.Discords(reads(pair, c.pieces))
		wants(t, "Discords of "+c.name, l, e, c.want)
	}
	// A fourth is allowed above a bass. That this ends makes a discord, but no note begins then.
	bass := "C3/5 : 1 2 3 4 5"
	c := api.Consort{Pieces: []api.Piece{read(pair, "S a a"), read(bass, "M a; - %")}}
	l, e = consort.Discords(c)
	wants(t, "Discords over a bass", l, e, "[]")
	c.Pieces = append(c.Pieces, read(pair, "M %; M a -"))
	l, e = consort.Discords(c)
	wants(t, "Discords behind a bass", l, e, "[96]")
}

// discords returns what Discords should return, and how many other times there are.
func discords(c api.Consort) (times []int, concords int) {
	var all []int
	for _, p := range c.Pieces {
		for _, n := range notesOf(p) {
			var pitches []int
			for _, q := range c.Pieces {
				own, e := sound.At(q, n.From)
				if e != api.OK {
					panic(e)
				}
				pitches = append(pitches, own...)
			}
			all = append(all, n.From)
			if !sound.Concordant(pitches) {
				times = append(times, n.From)
			}
		}
	}
	slices.Sort(times)
	slices.Sort(all)
	times = slices.Compact(times)
	return times, len(slices.Compact(all)) - len(times)
}

// P9.3: the same by sound.At.
func TestDiscordsByPitches(t *testing.T) {
	r := rand.New(rand.NewPCG(11, 12))
	concords, found := 0, 0
	all := consorts(13, 60)
	// Few notes of few pitches are more often concords.
	few := strung("C3/0 G3/0 C4/0 E4/0 :")
	for range 200 {
		var c api.Consort
		for range 1 + r.IntN(3) {
			c.Pieces = append(c.Pieces, anyPiece(r, few, 12*20))
		}
		all = append(all, c)
	}
	for _, c := range all {
		l, e := consort.Discords(c)
		want, others := discords(c)
		wants(t, fmt.Sprint("Discords of ", c), l, e, fmt.Sprint(want))
		found += len(l)
		concords += others
	}
	if concords < 500 || found < 500 {
		t.Errorf("only %d concords and %d discords", concords, found)
	}
}

// P0.1: as much as a consort may have takes no longer than it must.
func TestLarge(t *testing.T) {
	c := large(rand.New(rand.NewPCG(14, 15)))
	start := time.Now()
	cues, e := consort.Score(c)
	if e != api.OK || len(cues) < 6*390 {
		t.Errorf("Score of much returns %d cues, %d", len(cues), e)
	}
	l, e := consort.Sounds(c)
	if e != api.OK || len(l) != 6*390*14 {
		t.Errorf("Sounds of much returns %d tones, %d", len(l), e)
	}
	times, e := consort.Discords(c)
	if e != api.OK || len(times) != 6*390 {
		t.Errorf("Discords of much returns %d times, %d", len(times), e)
	}
	p := player(c)
	if e := p.Repeat(0, 390*384, 5); e != api.OK {
		t.Errorf("Repeat of much: %d", e)
	}
	play(t, p)
	if got := len(p.Takes()); got < 6*6*389*14 {
		t.Errorf("%d takes of much", got)
	}
	if took := time.Since(start); took > 20*time.Second {
		t.Errorf("all of this has taken %v", took)
	}
}
