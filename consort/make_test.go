package consort_test

import (
	"fmt"
	"math/rand/v2"
	"slices"
	"testing"

	"theorbo/api"
	"theorbo/consort"
	"theorbo/hand"
	"theorbo/intabulate"
	"theorbo/piece"
)

// part makes a part of pitch, from and to of each tone.
func part(numbers ...int) []api.Tone {
	var l []api.Tone
	for n := range slices.Chunk(numbers, 3) {
		l = append(l, api.Tone{Pitch: n[0], From: n[1], To: n[2]})
	}
	return l
}

// plays returns a desk with lute6 and the standard hand.
func plays(parts ...int) api.Desk {
	return api.Desk{Instrument: strung(lute6), Hand: hand.Standard(), Parts: parts}
}

// steadyPart returns a part of so many tones, each 12 ticks long.
func steadyPart(count int) []api.Tone {
	var l []api.Tone
	for i := range count {
		l = append(l, api.Tone{Pitch: 67, From: 12 * i, To: 12 * (i + 1)})
	}
	return l
}

// ownParts returns the parts of a desk.
func ownParts(parts [][]api.Tone, d api.Desk) [][]api.Tone {
	var own [][]api.Tone
	for _, n := range d.Parts {
		own = append(own, parts[n])
	}
	return own
}

// P9.1: a part may be played by several desks, or by none; losses number the parts of the desk.
func TestMake(t *testing.T) {
	parts := [][]api.Tone{part(40, 0, 96), part(71, 0, 288), part(67, 0, 192), part(67, 0, 96, 60, 96, 192)}
	high := plays(3)
	high.Shift = 12
	c, settings, e := consort.Make(parts, []api.Desk{plays(2, 3), plays(3), plays(), high, plays(1)})
	want := reads(lute6, "M a - - - - -; M - - d - - -; M % / M a - - - - -; M - - d - - -; M % / S. % / M %; M f - - - - -; M % / S. e - - - - -")
	if e != api.OK || !sameConsort(c, want) || len(settings) != 5 {
		t.Fatalf("Make = %v, %d settings, %d", c, len(settings), e)
	}
	for i, losses := range []string{"[{1 0 2 0}]", "[]", "[]", "[{0 0 1 0}]", "[]"} {
		wants(t, fmt.Sprint("the losses of the desk ", i), settings[i].Losses, e, losses)
	}
	if settings[3].Shift != 12 || settings[0].Shift != 0 {
		t.Errorf("the shifts are %d and %d", settings[3].Shift, settings[0].Shift)
	}
	if c, settings, e := consort.Make(nil, []api.Desk{plays(), plays()}); e != api.OK || !sameConsort(c, reads(lute6, "/")) || len(settings) != 2 {
		t.Errorf("Make of no parts = %v, %v, %d", c, settings, e)
	}
}

// P9.1, R1: the errors of Make, in their order.
func TestMakeErrors(t *testing.T) {
	changed := func(d api.Desk, change func(d *api.Desk)) api.Desk {
		change(&d)
		return d
	}
	noHand := changed(plays(0), func(d *api.Desk) { d.Hand = api.Hand{} })
	noInstrument := changed(plays(0), func(d *api.Desk) { d.Instrument = api.Instrument{}; d.Shift = 25 })
	farShift := changed(plays(0), func(d *api.Desk) { d.Shift = -25 })
	long := []api.Tone{{Pitch: 67, From: 0, To: 4608}, {Pitch: 67, From: 4608, To: 4812}}
	for _, c := range []struct {
		name  string
		parts [][]api.Tone
		desks []api.Desk
		want  api.Errno
	}{
		{"too many parts and no desks", make([][]api.Tone, 7), nil, api.ErrMany},
		{"bad parts and no desks", [][]api.Tone{part(67, 96, 96)}, nil, api.ErrPart},
		{"no desks", [][]api.Tone{part(67, 0, 96)}, nil, api.ErrDesk},
		{"six desks", [][]api.Tone{part(67, 0, 96)}, slices.Repeat([]api.Desk{plays(0)}, 6), api.OK},
		{"seven desks", nil, slices.Repeat([]api.Desk{plays(0)}, 7), api.ErrMany},
		{"a part below 0", [][]api.Tone{nil}, []api.Desk{plays(-1)}, api.ErrDesk},
		{"no such part", [][]api.Tone{nil}, []api.Desk{plays(0, 1)}, api.ErrDesk},
		{"a part of none", nil, []api.Desk{plays(), plays(0)}, api.ErrDesk},
		{"a part twice", [][]api.Tone{nil, nil}, []api.Desk{plays(1, 1)}, api.ErrDesk},
		{"parts in disorder", [][]api.Tone{nil, nil}, []api.Desk{plays(1, 0)}, api.ErrDesk},
		{"any parts", [][]api.Tone{nil, nil, nil}, []api.Desk{plays(0, 2), plays(1), plays(0, 1, 2)}, api.OK},
		{"a bad desk, then no such part", [][]api.Tone{nil}, []api.Desk{noInstrument, noHand, plays(1)}, api.ErrDesk},
		{"a bad instrument first", [][]api.Tone{nil}, []api.Desk{plays(0), noInstrument, noHand, farShift}, api.ErrInstrument},
		{"a bad hand first", [][]api.Tone{nil}, []api.Desk{plays(0), noHand, noInstrument}, api.ErrHand},
		{"a bad shift first", [][]api.Tone{nil}, []api.Desk{farShift, noInstrument}, api.ErrArg},
		{"a time without signs", [][]api.Tone{part(67, 0, 5)}, []api.Desk{plays(0), noHand}, api.ErrTime},
		{"one that is not played", [][]api.Tone{part(67, 0, 5), part(67, 0, 6)}, []api.Desk{plays(1)}, api.OK},
		{"too many events", [][]api.Tone{steadyPart(400), part(67, 4800, 4812)}, []api.Desk{plays(0, 1), noHand}, api.ErrMany},
		{"many events", [][]api.Tone{steadyPart(400), part(67, 0, 4608)}, []api.Desk{plays(0), plays(1)}, api.OK},
		{"too many events with rests", [][]api.Tone{steadyPart(400), long}, []api.Desk{plays(0), plays(1)}, api.ErrMany},
		{"rests without signs", [][]api.Tone{part(67, 0, 4), part(67, 0, 9)}, []api.Desk{plays(1), plays(0)}, api.ErrTime},
		{"rests without signs, and a bad desk", [][]api.Tone{part(67, 0, 4), part(67, 0, 9)}, []api.Desk{plays(1), plays(0), noHand}, api.ErrHand},
	} {
		made, settings, e := consort.Make(c.parts, c.desks)
		if e != c.want || e != api.OK && (len(made.Pieces) > 0 || len(settings) > 0) {
			t.Errorf("Make with %s = %v, %v, %d; it should be %d", c.name, made, settings, e, c.want)
		}
		if e == api.OK && len(settings) != len(c.desks) {
			t.Errorf("Make with %s returns %d settings", c.name, len(settings))
		}
	}
}

// anyParts returns valid parts within a compass.
func anyParts(r *rand.Rand, low, high int) [][]api.Tone {
	parts := make([][]api.Tone, r.IntN(api.MaxParts+1))
	for i := range parts {
		time := 24 * r.IntN(4)
		for range r.IntN(20) {
			to := time + 24*(1+r.IntN(6))
			parts[i] = append(parts[i], api.Tone{Pitch: low + r.IntN(high-low+1), From: time, To: to})
			time = to + 24*max(0, r.IntN(6)-4)
		}
	}
	return parts
}

// anyDesks returns desks for parts.
func anyDesks(r *rand.Rand, parts int) []api.Desk {
	var desks []api.Desk
	for range 1 + r.IntN(api.MaxDesks) {
		d := api.Desk{Instrument: anyInstrument(r), Hand: hand.Standard(), Shift: r.IntN(9) - 4}
		for n := range parts {
			if r.IntN(2) == 0 {
				d.Parts = append(d.Parts, n)
			}
		}
		desks = append(desks, d)
	}
	return desks
}

// P9.1, P9.5, P0.3, P0.6: each desk plays what its setting declares, and then rests.
func TestMade(t *testing.T) {
	r := rand.New(rand.NewPCG(5, 6))
	kinds := [4]int{}
	for range 150 {
		parts := anyParts(r, 45, 72)
		desks := anyDesks(r, len(parts))
		c, settings, e := consort.Make(parts, desks)
		if e != api.OK || consort.Check(c) != api.OK || len(settings) != len(desks) || len(c.Pieces) != len(desks) {
			t.Fatalf("Make of %v, %v = %v, %v, %d", parts, desks, c, settings, e)
		}
		var pieces []api.Piece
		for i, d := range desks {
			own := ownParts(parts, d)
			s, e := intabulate.Intabulate(own, d.Instrument, d.Hand, d.Shift)
			if e != api.OK || fmt.Sprint(settings[i]) != fmt.Sprint(s) {
				t.Fatalf("the setting %d of %v, %v is %v; it should be %v, %d", i, parts, desks, settings[i], s, e)
			}
			pieces = append(pieces, s.Piece)
			for _, l := range s.Losses {
				kinds[l.Kind]++
			}
			if e := intabulate.Verify(own, s); e != api.OK {
				t.Fatalf("Verify of the desk %d of %v, %v: %d", i, parts, desks, e)
			}
			// The rests behind it change nothing of what it plays.
			s.Piece = c.Pieces[i]
			if e := intabulate.Verify(own, s); e != api.OK {
				t.Fatalf("Verify of the piece %d of %v, %v: %d", i, parts, desks, e)
			}
			if l := c.Pieces[i].Events; len(l) < len(pieces[i].Events) || !piece.Same(api.Piece{Instrument: d.Instrument, Events: l[:len(pieces[i].Events)]}, pieces[i]) {
				t.Fatalf("the piece %d of %v, %v does not begin as that of the setting", i, parts, desks)
			}
		}
		if want, e := consort.Pad(pieces); e != api.OK || !sameConsort(c, want) {
			t.Fatalf("Make of %v, %v = %v; it should be %v, %d", parts, desks, c, want, e)
		}
	}
	if kinds[api.Dropped] < 100 || kinds[api.Doubled] < 20 || kinds[api.Cut] < 100 {
		t.Errorf("only %v losses", kinds)
	}
}

// allotted returns what Allot should return, by trying all lists in order.
func allotted(parts [][]api.Tone, ins []api.Instrument, most int) (best []int, fewest int) {
	ways := 1
	missing := make([][]int, len(parts))
	for i := range parts {
		ways *= len(ins)
		for _, in := range ins {
			count, _ := intabulate.Missing(parts[i:i+1], in, 0)
			missing[i] = append(missing[i], count)
		}
	}
	fewest = -1
	for way := range ways {
		desks, count, load := make([]int, len(parts)), 0, make([]int, len(ins))
		for i := len(parts) - 1; i >= 0; i-- {
			desks[i], way = way%len(ins), way/len(ins)
			load[desks[i]]++
			count += missing[i][desks[i]]
		}
		if slices.Max(load) <= most && (fewest < 0 || count < fewest) {
			best, fewest = desks, count
		}
	}
	return best, fewest
}

// P9.2: the example, ties, and instruments that are full.
func TestAllot(t *testing.T) {
	lute, low, guitar := standard("lute6"), standard("theorbo14"), standard("guitar4")
	for _, c := range []struct {
		name    string
		parts   [][]api.Tone
		ins     []api.Instrument
		most    int
		desks   string
		missing int
	}{
		{"the example", [][]api.Tone{part(31, 0, 96), part(72, 0, 96)}, []api.Instrument{lute, low}, 1, "[1 0]", 0},
		{"no parts", nil, []api.Instrument{lute}, 1, "[]", 0},
		{"parts without tones", [][]api.Tone{nil, nil, nil}, []api.Instrument{lute, low}, 2, "[0 0 1]", 0},
		{"equal instruments", [][]api.Tone{part(60, 0, 96), part(60, 0, 96), part(60, 0, 96)}, []api.Instrument{lute, lute, lute}, 1, "[0 1 2]", 0},
		{"room for all", [][]api.Tone{part(60, 0, 96), part(60, 0, 96), part(60, 0, 96)}, []api.Instrument{lute, lute}, 6, "[0 0 0]", 0},
		{"the first one gives way", [][]api.Tone{part(60, 0, 96), part(72, 0, 96, 72, 96, 192)}, []api.Instrument{lute, low}, 1, "[1 0]", 0},
		{"one is missing rather than two", [][]api.Tone{part(72, 0, 96), part(72, 0, 96, 72, 96, 192)}, []api.Instrument{lute, low}, 1, "[1 0]", 1},
		{"as many are missing", [][]api.Tone{part(72, 0, 96), part(72, 0, 96)}, []api.Instrument{lute, low}, 1, "[0 1]", 1},
		{"nobody has it", [][]api.Tone{part(20, 0, 96, 21, 96, 192), part(127, 0, 96)}, []api.Instrument{lute, low}, 1, "[0 1]", 3},
		{"six parts", [][]api.Tone{part(31, 0, 96), part(74, 0, 96), part(76, 0, 96), part(50, 0, 96), part(31, 0, 96), part(76, 0, 96)}, []api.Instrument{lute, low, guitar}, 2, "[1 0 2 0 1 2]", 0},
	} {
		desks, missing, e := consort.Allot(c.parts, c.ins, c.most)
		wants(t, "Allot for "+c.name, desks, e, c.desks)
		if missing != c.missing {
			t.Errorf("Allot for %s: %d are missing; it should be %d", c.name, missing, c.missing)
		}
	}
}

// P9.2: all lists are tried.
func TestAllotted(t *testing.T) {
	r := rand.New(rand.NewPCG(7, 8))
	turned, full := 0, 0
	for range 600 {
		parts := anyParts(r, 30, 80)
		for i := range parts {
			low := 30 + r.IntN(40)
			for j := range parts[i] {
				parts[i][j].Pitch = low + r.IntN(12)
			}
		}
		var ins []api.Instrument
		for range 1 + r.IntN(4) {
			ins = append(ins, anyInstrument(r))
		}
		most := max(1, (len(parts)+len(ins)-1)/len(ins))
		if r.IntN(3) == 0 {
			most += r.IntN(api.MaxParts + 1 - most)
		}
		desks, missing, e := consort.Allot(parts, ins, most)
		best, fewest := allotted(parts, ins, most)
		if e != api.OK || !slices.Equal(desks, best) || missing != fewest {
			t.Fatalf("Allot of %v, %v, %d = %v, %d, %d; it should be %v, %d", parts, ins, most, desks, missing, e, best, fewest)
		}
		if len(desks) > 0 && slices.Max(desks) > 0 {
			turned++
		}
		if _, free := allotted(parts, ins, api.MaxParts); free < fewest {
			full++
		}
	}
	if turned < 100 || full < 50 {
		t.Errorf("only %d lists are not all 0, and %d instruments too full", turned, full)
	}
}

// P9.2, R1: the errors of Allot, in their order.
func TestAllotErrors(t *testing.T) {
	lute := strung(lute6)
	high := strung(lute6)
	high.Courses[0].Pitch = 128
	for _, c := range []struct {
		name  string
		parts [][]api.Tone
		ins   []api.Instrument
		most  int
		want  api.Errno
	}{
		{"too many parts and no instruments", make([][]api.Tone, 7), nil, 0, api.ErrMany},
		{"a bad part and no instruments", [][]api.Tone{nil, part(128, 0, 96)}, nil, 0, api.ErrPart},
		{"no instruments", nil, nil, 0, api.ErrDesk},
		{"six instruments", make([][]api.Tone, 6), slices.Repeat([]api.Instrument{lute}, 6), 1, api.OK},
		{"seven instruments", nil, slices.Repeat([]api.Instrument{high}, 7), 0, api.ErrMany},
		{"the first bad instrument", make([][]api.Tone, 6), []api.Instrument{lute, high, {}}, 0, api.ErrPitch},
		{"another first bad instrument", make([][]api.Tone, 6), []api.Instrument{lute, {}, high}, 0, api.ErrInstrument},
		{"at most none", nil, []api.Instrument{lute}, 0, api.ErrArg},
		{"at most too many", nil, []api.Instrument{lute}, 7, api.ErrArg},
		{"at most none of too many", make([][]api.Tone, 6), []api.Instrument{lute}, 0, api.ErrArg},
		{"as many as there is room for", make([][]api.Tone, 6), []api.Instrument{lute, lute}, 3, api.OK},
		{"more than there is room for", make([][]api.Tone, 5), []api.Instrument{lute, lute}, 2, api.ErrDesk},
		{"all for one", make([][]api.Tone, 6), []api.Instrument{lute}, 6, api.OK},
		{"more than one may have", make([][]api.Tone, 6), []api.Instrument{lute}, 5, api.ErrDesk},
	} {
		desks, missing, e := consort.Allot(c.parts, c.ins, c.most)
		if e != c.want || e != api.OK && (len(desks) > 0 || missing != 0) {
			t.Errorf("Allot with %s = %v, %d, %d; it should be %d", c.name, desks, missing, e, c.want)
		}
		if e == api.OK && len(desks) != len(c.parts) {
			t.Errorf("Allot with %s = %v", c.name, desks)
		}
	}
	for _, most := range hostile {
		want := api.ErrArg
		if 1 <= most && most <= 6 {
			want = api.OK
		}
		if _, _, e := consort.Allot(make([][]api.Tone, 1), []api.Instrument{lute}, most); e != want {
			t.Errorf("Allot with at most %d: %d", most, e)
		}
	}
}
