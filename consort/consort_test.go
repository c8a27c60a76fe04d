package consort_test

import (
	"fmt"
	"math/rand/v2"
	"slices"
	"testing"

	"theorbo/api"
	"theorbo/consort"
	"theorbo/piece"
	"theorbo/sound"
)

// P9.1: Check, also of what has no notes, no events, or different events.
func TestCheck(t *testing.T) {
	minim, crotchet := read(pair, "M a -"), read(pair, "C a -")
	bad := brokenPieces()[0].p
	for _, c := range []struct {
		name   string
		pieces []api.Piece
		want   api.Errno
	}{
		{"no pieces", nil, api.ErrDesk},
		{"a piece", []api.Piece{minim}, api.OK},
		{"six pieces", slices.Repeat([]api.Piece{minim}, 6), api.OK},
		{"seven pieces", slices.Repeat([]api.Piece{minim}, 7), api.ErrMany},
		{"seven bad pieces", slices.Repeat([]api.Piece{bad}, 7), api.ErrMany},
		{"too many pieces of different lengths", []api.Piece{minim, crotchet, minim, minim, minim, minim, minim}, api.ErrMany},
		{"a bad piece behind a short one", []api.Piece{minim, crotchet, bad}, api.ErrInstrument},
		{"a shorter piece", []api.Piece{minim, crotchet}, api.ErrLength},
		{"a longer piece", []api.Piece{crotchet, crotchet, minim}, api.ErrLength},
		{"a piece without events", []api.Piece{minim, read(pair, "")}, api.ErrLength},
		{"pieces without events", []api.Piece{read(lute6, ""), read(pair, "")}, api.OK},
		{"other events", []api.Piece{minim, read(lute6, "C %; Q3 c - - - - -; - ~; - a - - - - -")}, api.OK},
		{"a tick less", []api.Piece{read(pair, "D. a -; M %"), read(pair, "X3 a -; M %")}, api.ErrLength},
	} {
		if e := consort.Check(api.Consort{Pieces: c.pieces}); e != c.want {
			t.Errorf("Check of %s: %d; it should be %d", c.name, e, c.want)
		}
	}
}

// P9.1, R1: of several bad pieces the first one decides, for every function that is given pieces.
func TestBadPieces(t *testing.T) {
	fine := read(pair, "M a -; M %")
	for _, b := range brokenPieces() {
		for _, pieces := range [][]api.Piece{{b.p}, {fine, b.p}, {read(pair, "M a -"), b.p, fine}, {fine, b.p, brokenPieces()[3].p}} {
			c := api.Consort{Pieces: pieces}
			padded, e := consort.Pad(pieces)
			if e != b.e || len(padded.Pieces) > 0 {
				t.Errorf("Pad of a bad piece = %v, %d; it should be %d", padded, e, b.e)
			}
			refuses(t, c, b.e)
		}
	}
	refuses(t, api.Consort{}, api.ErrDesk)
	refuses(t, api.Consort{Pieces: slices.Repeat([]api.Piece{fine}, 7)}, api.ErrMany)
	refuses(t, api.Consort{Pieces: []api.Piece{fine, read(pair, "M a -")}}, api.ErrLength)
}

// refuses demands an error of all functions that are given a consort.
func refuses(t *testing.T, c api.Consort, want api.Errno) {
	t.Helper()
	if e := consort.Check(c); e != want {
		t.Errorf("Check of %v: %d; it should be %d", c, e, want)
	}
	if l, e := consort.Score(c); e != want || len(l) > 0 {
		t.Errorf("Score of %v = %v, %d; it should be %d", c, l, e, want)
	}
	if l, e := consort.Sounds(c); e != want || len(l) > 0 {
		t.Errorf("Sounds of %v = %v, %d; it should be %d", c, l, e, want)
	}
	if l, e := consort.Discords(c); e != want || len(l) > 0 {
		t.Errorf("Discords of %v = %v, %d; it should be %d", c, l, e, want)
	}
	if p, e := consort.New(c); e != want || p != nil {
		t.Errorf("New of %v = %v, %d; it should be %d", c, p, e, want)
	}
}

// P9.1: the rests of Pad: as few signs as possible, in order, written, without bar lines.
func TestPad(t *testing.T) {
	for _, c := range []struct{ name, pieces, want string }{
		{"a piece and one without events", "M a -; M c - / ", "M a -; M c - / S %"},
		{"a piece alone", "M a -; - ~", "M a -; - ~"},
		{"a piece without events alone", "", ""},
		{"equal lengths", "M a -; - c - / S - a", "M a -; - c - / S - a"},
		{"three lengths", "M a - / S a -; M c - / S. a -; M a -", "M a -; S. % / S a -; M c -; M % / S. a -; M a -"},
		{"dots", "M a - / M a -; C. a -; X. a -", "M a -; C. %; X. % / M a -; C. a -; X. a -"},
		{"triplets", "M a - / M a -; X a -; X3 a -", "M a -; Q3 %; D3 % / M a -; X a -; X3 a -"},
		{"the sign in force", "M - a; - - c / S - a; M - c", "M - a; - - c; M % / S - a; M - c"},
		{"bar lines", "| M. a -; | - c - / S. c -; | M - a", "| M. a -; | - c -; M % / S. c -; | M - a"},
		{"an open string and a hold", "M a c_1; - ~ / S - b; S. %", "M a c_1; - ~; S. % / S - b; S. %"},
	} {
		padded, e := consort.Pad(reads(pair, c.pieces).Pieces)
		if want := reads(pair, c.want); e != api.OK || !sameConsort(padded, want) {
			t.Errorf("Pad of %s = %v, %d; it should be %v", c.name, padded, e, want)
		}
	}
}

// steady returns a piece of so many rests, 384 ticks long each for the value 1, and 12 for the value 6.
func steady(value, count int) api.Piece {
	return api.Piece{Instrument: strung(pair), Events: slices.Repeat([]api.Event{{Sign: api.Sign{Value: value}}}, count)}
}

// longer returns a piece that is longer by some events.
func longer(p api.Piece, events string) api.Piece {
	p, e := piece.Append(p, read(pair, events))
	if e != api.OK {
		panic(e)
	}
	return p
}

// P9.1: what cannot be padded, piece by piece, and what just can be.
func TestPadErrors(t *testing.T) {
	none, full := read(pair, ""), steady(6, 400)
	later12 := longer(steady(6, 399), "Q %")               // 12 ticks longer than full
	earlier5 := longer(steady(6, 397), "X. %; Q3 %; D. %") // 5 ticks shorter than later12
	later5 := longer(steady(6, 397), "C3 %; D. %")         // 5 ticks longer than full
	for _, c := range []struct {
		name   string
		pieces []api.Piece
		want   api.Errno
	}{
		{"no pieces", nil, api.ErrDesk},
		{"six pieces", slices.Repeat([]api.Piece{none}, 6), api.OK},
		{"seven pieces", slices.Repeat([]api.Piece{none}, 7), api.ErrMany},
		{"1 tick", []api.Piece{read(pair, "X3 %"), read(pair, "D. %")}, api.ErrTime},
		{"11 ticks", []api.Piece{read(pair, "X %; X3 %"), read(pair, "D. %")}, api.ErrTime},
		{"4 ticks", []api.Piece{none, read(pair, "D3 %")}, api.OK},
		{"as long as signs may last", []api.Piece{steady(1, 12), none}, api.OK},
		{"longer than signs may last", []api.Piece{longer(steady(1, 12), "D3 %"), none}, api.ErrTime},
		{"by far longer than signs may last", []api.Piece{none, steady(1, 400)}, api.ErrTime},
		{"as many events as there may be", []api.Piece{steady(6, 399), longer(steady(6, 399), "M %")}, api.OK},
		{"one event too many", []api.Piece{steady(6, 399), longer(steady(6, 398), "M %; Q. %")}, api.ErrMany},
		{"no room for an event", []api.Piece{later12, full}, api.ErrMany},
		{"no time and no room", []api.Piece{full, later5}, api.ErrTime},
		{"no room, then no time", []api.Piece{full, earlier5, later12}, api.ErrMany},
		{"no time, then no room", []api.Piece{earlier5, later12, full}, api.ErrTime},
	} {
		padded, e := consort.Pad(c.pieces)
		if e != c.want || e != api.OK && len(padded.Pieces) > 0 {
			t.Errorf("Pad of %s = %v, %d; it should be %d", c.name, padded, e, c.want)
		}
		if e == api.OK && (consort.Check(padded) != api.OK || len(padded.Pieces) != len(c.pieces)) {
			t.Errorf("Pad of %s = %v", c.name, padded)
		}
	}
}

// P9.1: each piece goes on as before, and then rests.
func TestPadded(t *testing.T) {
	r := rand.New(rand.NewPCG(3, 4))
	shorter := 0
	for range 500 {
		var pieces []api.Piece
		longest := 0
		for range 1 + r.IntN(6) {
			p := anyPiece(r, anyInstrument(r), 12*r.IntN(40))
			pieces, longest = append(pieces, p), max(longest, lengthOf(p))
		}
		c, e := consort.Pad(pieces)
		if e != api.OK || consort.Check(c) != api.OK || len(c.Pieces) != len(pieces) {
			t.Fatalf("Pad of %v = %v, %d", pieces, c, e)
		}
		for i, p := range pieces {
			want := p
			want.Events = slices.Concat(p.Events, rests(longest-lengthOf(p)))
			if !piece.Same(c.Pieces[i], want) || lengthOf(c.Pieces[i]) != longest {
				t.Fatalf("Pad of %v = %v; the piece %d should be %v", pieces, c, i, want)
			}
			if len(want.Events) > len(p.Events) {
				shorter++
			}
			before, _ := sound.Tones(p)
			after, _ := sound.Tones(c.Pieces[i])
			if fmt.Sprint(before) != fmt.Sprint(after) {
				t.Fatalf("the piece %d of %v sounds %v in a consort", i, pieces, after)
			}
		}
	}
	if shorter < 500 {
		t.Errorf("only %d pieces are padded", shorter)
	}
}
