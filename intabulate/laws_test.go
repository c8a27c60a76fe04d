package intabulate_test

import (
	"cmp"
	"fmt"
	"math/rand/v2"
	"slices"
	"sync"
	"testing"

	"theorbo/api"
	"theorbo/hand"
	"theorbo/instrument"
	"theorbo/intabulate"
	"theorbo/piece"
	"theorbo/sound"
	"theorbo/voice"
)

// motets returns tasks of more tones than all choices could be tried of.
var motets = sync.OnceValue(func() []task {
	r := rand.New(rand.NewPCG(15, 16))
	var tasks []task
	for _, name := range instrument.Names() {
		in, _ := instrument.Standard(name)
		low, high, _ := instrument.Compass(in)
		for range 12 {
			k := task{in: in, h: hand.Standard(), shift: r.IntN(5) - 2}
			if r.IntN(3) == 0 {
				k.h = anyHand(r)
			}
			count, spread := 1+r.IntN(6), (high-low)/(1+r.IntN(3))
			for i := range count {
				k.parts = append(k.parts, sing(r, high-2-spread*i/count))
			}
			tasks = append(tasks, k)
		}
	}
	return tasks
})

// sing returns a part that wanders around a pitch.
func sing(r *rand.Rand, middle int) []api.Tone {
	var p []api.Tone
	pitch, time := middle, 48*r.IntN(3)
	for time < 48*60 {
		to := time + 24*(1+r.IntN(8))
		p = append(p, api.Tone{Pitch: pitch, From: time, To: to})
		pitch = min(max(pitch+r.IntN(7)-3, middle-6), middle+6)
		time = to + 48*max(0, r.IntN(10)-8)
	}
	return p
}

// eachTone goes through the tones of a setting with their places and losses.
func eachTone(k task, s api.Setting, look func(tone api.Tone, pl api.Place, losses []api.Loss)) {
	for i, p := range k.parts {
		for j, tone := range p {
			look(tone, s.Where[i][j], lossesOf(s, i, j))
		}
	}
}

// P8.5, P8.9, P0.3, P0.6: each tone that is not dropped is played when it begins, as long as it should unless it is cut, and nothing else is played.
func TestDeclared(t *testing.T) {
	kinds := [4]int{}
	for _, k := range motets() {
		s := k.must(t)
		if e := cmp.Or(intabulate.Verify(k.parts, s), judged(k.parts, s)); e != api.OK {
			t.Fatalf("Verify of the setting of %v: %d", k, e)
		}
		notes, e := sound.Notes(s.Piece)
		if e != api.OK {
			t.Fatalf("the piece of %v: %d", k, e)
		}
		stops := 0
		eachTone(k, s, func(tone api.Tone, pl api.Place, losses []api.Loss) {
			cut, doubled := tone.To, false
			for _, l := range losses {
				kinds[l.Kind]++
				switch l.Kind {
				case api.Dropped:
					return
				case api.Doubled:
					doubled = true
				case api.Cut:
					cut = l.Time
				}
			}
			if !doubled {
				stops++
			}
			if !slices.ContainsFunc(notes, func(n api.Note) bool {
				return n.Pitch == tone.Pitch+k.shift && n.Course == pl.Course && n.From == tone.From && (n.To == cut || n.To > cut && cut == tone.To)
			}) {
				t.Fatalf("the tone %v of %v is not played at %v: %v", tone, k, pl, notes)
			}
		})
		if stops != len(notes) {
			t.Fatalf("%d tones of %v are played, with %d notes", stops, k, len(notes))
		}
		dropped, doubled, _ := intabulate.Lost(s)
		if all := len(slices.Concat(k.parts...)); len(notes) != all-dropped-doubled {
			t.Fatalf("%d notes of %d tones of %v: %d dropped, %d doubled", len(notes), all, k, dropped, doubled)
		}
		times, _ := intabulate.Times(k.parts)
		onsets, _ := piece.Onsets(s.Piece)
		for _, time := range times {
			if !slices.Contains(onsets, time) {
				t.Fatalf("no event of %v begins at %d: %v", k, time, onsets)
			}
		}
		l, e := intabulate.Left(k.parts, s)
		if e != api.OK || voice.CheckParts(l) != api.OK || shownParts(l) != shownParts(left(k.parts, s)) {
			t.Fatalf("Left of %v = %v, %d", k, l, e)
		}
	}
	for kind, count := range kinds {
		if kind > 0 && count < 100 {
			t.Errorf("only %d losses of kind %d", count, kind)
		}
	}
}

// P8.5: the events of a setting have their signs written, no bar lines, no marks.
func TestPlainEvents(t *testing.T) {
	for _, k := range motets() {
		s := k.must(t)
		if !instrument.Same(s.Piece.Instrument, k.in) || s.Shift != k.shift {
			t.Fatalf("the setting of %v is for %v, with the shift %d", k, s.Piece.Instrument, s.Shift)
		}
		for i, ev := range s.Piece.Events {
			if ev.Bar || piece.Ticks(ev.Sign) == 0 {
				t.Fatalf("the event %d of %v is %v", i, k, ev)
			}
			for _, st := range ev.Stops {
				if st.Right != 0 || st.Grace != 0 {
					t.Fatalf("the event %d of %v has the stop %v", i, k, st)
				}
			}
		}
	}
}

// P8.6, P0.4: there is a hand that can play the piece.
func TestPlayable(t *testing.T) {
	tasks, _ := verdicts()
	for _, k := range append(motets(), tasks...) {
		s := k.must(t)
		chords, e := hand.Chords(s.Piece)
		if e != api.OK || len(chords) != len(s.Piece.Events) {
			t.Fatalf("the chords of %v: %d", k, e)
		}
		best, e := hand.Best(k.h, chords)
		if e != api.OK && e != api.ErrMany {
			t.Fatalf("Best of the setting of %v: %d", k, e)
		}
		if e == api.OK {
			if _, _, e := hand.Valid(k.h, chords, best.Grips); e != api.OK {
				t.Fatalf("Best of the setting of %v is not valid", k)
			}
		}
	}
}

// stopsAll reports whether a hand can stop each place of an instrument alone.
func stopsAll(h api.Hand, in api.Instrument) bool {
	for i, c := range in.Courses {
		for fret := 1; fret <= c.Frets; fret++ {
			l, e := hand.Grips(h, api.Chord{Down: []api.Place{{Course: i + 1, Fret: fret}}})
			if e != api.OK || len(l) == 0 {
				return false
			}
		}
	}
	return true
}

// P8.10: of one part alone nothing is doubled or cut, and what can be played is played.
func TestOnePart(t *testing.T) {
	r := rand.New(rand.NewPCG(17, 18))
	able, unable := 0, 0
	for range 1500 {
		k := task{in: anyInstrument(r), h: anyHand(r), shift: r.IntN(5) - 2}
		k.parts = [][]api.Tone{anyPart(r, 30, 57, 68, 24)}
		if r.IntN(2) == 0 {
			k.h = hand.Standard()
			k.h.Jump = []int{0, 7, 12, 18}[r.IntN(4)]
		}
		s := k.must(t)
		dropped, doubled, cut := intabulate.Lost(s)
		if doubled != 0 || cut != 0 {
			t.Fatalf("the setting of %v is %s", k, shown(s))
		}
		if k.h.Jump < k.h.Top || !stopsAll(k.h, k.in) {
			unable += dropped - missing(k.parts, k.in, k.shift)
			continue
		}
		able++
		if dropped != missing(k.parts, k.in, k.shift) {
			t.Fatalf("%d tones of %v are dropped: %s", dropped, k, shown(s))
		}
	}
	if able < 200 || unable < 50 {
		t.Errorf("%d hands are able; %d tones are dropped by others", able, unable)
	}
}

// P8.7: divisions can be set, and taken back.
func TestDividedParts(t *testing.T) {
	table := figures("2: 0 -1 0 1: 1 1 1 1, -2: 0 2 0 -1: 1 1 1 1, 1: 0 1: 1 1, -1: 0 -1: 1 1, 0: 0 2 0: 2 1 1, 3: 0 1 2: 2 1 1")
	divided := 0
	for _, k := range motets()[:40] {
		for i, p := range k.parts {
			picks, e := intabulate.Adorn(p, table, 12)
			if e != api.OK {
				t.Fatalf("Adorn of %v: %d", p, e)
			}
			l, e := intabulate.Divide(p, table, picks)
			if e != api.OK {
				t.Fatalf("Divide of %v, %v: %d", p, picks, e)
			}
			divided += len(l) - len(p)
			back, e := intabulate.Undivide(l, table, picks)
			wants(t, fmt.Sprint("Undivide of ", l, picks), shownPart(back), e, shownPart(p))
			k.parts[i] = l
		}
		s, e := k.set()
		if e == api.ErrMany {
			continue
		}
		if e := cmp.Or(e, intabulate.Verify(k.parts, s)); e != api.OK {
			t.Fatalf("the divided parts %v: %d", k, e)
		}
	}
	if divided < 500 {
		t.Errorf("only %d tones more", divided)
	}
}

// P8.2, P8.3: transposed parts are set as the parts are with a shift.
func TestTransposedParts(t *testing.T) {
	for _, k := range motets() {
		l, e := intabulate.Transpose(k.parts, k.shift)
		if e != api.OK {
			t.Fatalf("Transpose of %v: %d", k, e)
		}
		a, b := k.must(t), task{l, k.in, k.h, 0}.must(t)
		b.Shift = k.shift
		if !sameSetting(a, b) {
			t.Fatalf("the setting of %v is %s; transposed it is %s", k, shown(a), shown(b))
		}
	}
}
