package convey_test

import (
	"fmt"
	"math/rand/v2"
	"testing"

	"theorbo/api"
	"theorbo/convey"
	"theorbo/instrument"
	"theorbo/piece"
)

func retuned(p api.Piece, course, by int) result {
	tuned, e := instrument.Tune(p.Instrument, course, by)
	if e != api.OK {
		return failed(e)
	}
	return carriedOver(p, tuned, fatesOf(p, func(st api.Stop) (api.Stop, bool) {
		if st.Course != course {
			return st, true
		}
		fret, ok := fretFor(tuned, course, pitchOf(p.Instrument, st))
		st.Fret = fret
		return st, ok
	}))
}

func capped(p api.Piece, fret int) result {
	in, e := instrument.Capo(p.Instrument, fret)
	if e != api.OK {
		return failed(e)
	}
	return carriedOver(p, in, fatesOf(p, func(st api.Stop) (api.Stop, bool) {
		if p.Instrument.Courses[st.Course-1].Frets > 0 {
			st.Fret -= fret
		}
		return st, st.Fret >= 0
	}))
}

func released(p api.Piece, in api.Instrument, fret int) result {
	capped, e := instrument.Capo(in, fret)
	if e != api.OK {
		return failed(e)
	}
	if !instrument.Same(capped, p.Instrument) {
		return failed(api.ErrInstrument)
	}
	q := copied(p)
	q.Instrument = in
	for _, ev := range q.Events {
		for j, st := range ev.Stops {
			if in.Courses[st.Course-1].Frets > 0 {
				ev.Stops[j].Fret += fret
			}
		}
	}
	return lossless(q, api.OK)
}

func slid(p api.Piece, by int) result {
	if by < -18 || by > 18 {
		return failed(api.ErrArg)
	}
	q := copied(p)
	for _, ev := range q.Events {
		for j, st := range ev.Stops {
			frets := p.Instrument.Courses[st.Course-1].Frets
			if frets == 0 {
				continue
			}
			if st.Fret+by < 0 || st.Fret+by > frets {
				return failed(api.ErrFret)
			}
			ev.Stops[j].Fret += by
			if ev.Stops[j].Fret == 0 {
				ev.Stops[j].Hold = 0
			}
		}
	}
	return lossless(q, api.OK)
}

// P4.5: every piece, as the document says.
func TestRetune(t *testing.T) {
	r := rand.New(rand.NewPCG(31, 32))
	met := map[int]int{}
	for _, p := range pieces() {
		for range 6 {
			course, by := r.IntN(len(p.Instrument.Courses)+2), r.IntN(9)-4
			got, want := of(convey.Retune(p, course, by)), retuned(p, course, by)
			wants(t, fmt.Sprintf("Retune(%s, %d, %d)", shown(p), course, by), got, want)
			met[-int(want.e)]++
			for _, lack := range want.lost {
				met[lack.What]++
			}
		}
	}
	if met[0] < 1000 || met[api.LackNote] < 200 || met[api.LackHold] < 30 {
		t.Errorf("%v", met)
	}
}

// P4.5: pieces that are written out.
func TestRetuneWritten(t *testing.T) {
	lute, cittern, theorbo := standard("lute6"), standard("cittern4"), standard("theorbo14")
	for _, c := range []struct {
		in                  api.Instrument
		before              string
		course, by          int
		want, lost, course6 string
	}{
		{lute, "C 6b", 6, -2, "C 6d", "", "F2/8+"},
		{lute, "C 6h; - 6b", 6, -2, "C %; - 6d", "0.6 note", "F2/8+"},
		{lute, "C 6b; - 6h; - 6g", 6, -2, "C 6d; - ~; - 6i", "1.6 note", "F2/8+"},
		{lute, "C 6b; - 6a; - 6c", 6, 1, "C 6a; - ~; - 6b", "1.6 note", "G#2/8+"},
		{lute, "", 6, -2, "", "", "F2/8+"},
		// The other courses, the marks, ties, rests, bar lines and signs stay.
		{lute, "| C. 1a. 5i: 6b'#; | Q3 ~; - %; - 6d,", 6, 1, "| C. 1a. 5i: 6a'#; | Q3 ~; - %; - 6c,", "", "G#2/8+"},
		{lute, "C 1a 6b.#; - ~", 6, 2, "C 1a; - ~", "0.6 note", "A2/8+"},
		{lute, "C 1c_1 6b.#_1; - ~", 6, 0, "C 1c_1 6b.#_1; - ~", "", "G2/8+"},
		// Holds: a fret that is 0 now, a note that is left out.
		{lute, "C 6c.(_2; - ~; - 2a", 6, 2, "C 6a.(; - ~; - 2a", "0.6 hold", "A2/8+"},
		{lute, "C 6d_2; - ~; - 2a", 6, 2, "C 6b_2; - ~; - 2a", "", "A2/8+"},
		{lute, "C 1b_1 6d_1; - 2a; - 6b", 6, 2, "C 1b_1 6b_1; - 2a; - ~", "2.6 note", "A2/8+"},
		// Frets that are no semitones, and a course without frets.
		{cittern, "C 4a; - 4b; - 4c; - 4e", 4, -2, "C 4b; - 4d; - 4e; - 4f", "", ""},
		{cittern, "C 4a; - 4b; - 4c; - 4d; - 4e", 4, -1, "C %; - 4c; - 4d; - 4e; - ~", "0.4 note, 4.4 note", ""},
		{theorbo, "C 1a 8a; - 8a; - 9a", 8, -1, "C 1a; - ~; - 9a", "0.8 note, 1.8 note", "A2/8"},
	} {
		got := of(convey.Retune(made(c.in, c.before), c.course, c.by))
		want := made(c.in, c.want)
		want.Instrument, _ = instrument.Tune(c.in, c.course, c.by)
		if c.course6 != "" && want.Instrument.Courses[5] != built(c.course6 + " : 1 2 3 4 5 6 7 8").Courses[0] {
			t.Errorf("course 6 is %v", want.Instrument.Courses[5])
		}
		if !piece.Same(got.p, want) || told(got.lost) != c.lost || got.e != api.OK {
			t.Errorf("Retune(%s, %d, %d) = %s, %s, %d", c.before, c.course, c.by, shown(got.p), told(got.lost), got.e)
		}
	}
}

// P4.5: the errors and their order.
func TestRetuneErrors(t *testing.T) {
	p := made(standard("lute6"), "C 1a 6b")
	for _, course := range hostile {
		for _, by := range hostile {
			want := retuned(p, course, by)
			wants(t, fmt.Sprintf("Retune(%d, %d)", course, by), of(convey.Retune(p, course, by)), want)
			for _, b := range broken() {
				wants(t, fmt.Sprintf("Retune(%d, %d) of %s", course, by, b.name), of(convey.Retune(b.p, course, by)), failed(b.e))
			}
		}
	}
	for _, c := range []struct {
		course, by int
		e          api.Errno
	}{{0, 200, api.ErrCourse}, {7, 0, api.ErrCourse}, {6, 128, api.ErrArg}, {6, -128, api.ErrArg}, {6, 127, api.ErrPitch}, {6, -44, api.ErrPitch}, {6, -43, api.OK}, {1, 52, api.OK}, {1, 53, api.ErrPitch}} {
		if got := of(convey.Retune(p, c.course, c.by)); got.e != c.e {
			t.Errorf("Retune(%d, %d): error %d", c.course, c.by, got.e)
		}
	}
}

// P4.6, P4.7: every piece, as the document says.
func TestCapoAndRelease(t *testing.T) {
	r := rand.New(rand.NewPCG(33, 34))
	met := map[int]int{}
	for _, p := range pieces() {
		for range 4 {
			fret := r.IntN(6) - 1
			want := capped(p, fret)
			wants(t, fmt.Sprintf("Capo(%s, %d)", shown(p), fret), of(convey.Capo(p, fret)), want)
			met[-int(want.e)]++
			for _, lack := range want.lost {
				met[lack.What]++
			}
			if want.e != api.OK {
				continue
			}
			q := random(r, want.p.Instrument, 5)
			wants(t, fmt.Sprintf("Release(%s, %v, %d)", shown(q), p.Instrument, fret), lossless(convey.Release(q, p.Instrument, fret)), released(q, p.Instrument, fret))
		}
	}
	if met[0] < 500 || met[api.LackNote] < 200 || met[api.LackHold] < 30 || met[-int(api.ErrFret)] < 200 {
		t.Errorf("%v", met)
	}
}

// P4.6: pieces that are written out.
func TestCapoWritten(t *testing.T) {
	lute, cittern, theorbo := standard("lute6"), standard("cittern4"), standard("theorbo14")
	for _, c := range []struct {
		in                 api.Instrument
		before             string
		fret               int
		want, lost, capped string
	}{
		{lute, "C 1a 2c", 2, "C 2a", "0.1 note", "A4/6 E4/6 B3/6 G3/6+ D3/6+ A2/6+ : 1 2 3 4 5 6"},
		{lute, "", 2, "", "", "A4/6 E4/6 B3/6 G3/6+ D3/6+ A2/6+ : 1 2 3 4 5 6"},
		{lute, "C 1a.; - %", 0, "C 1a.; - %", "", "G4/8 D4/8 A3/8 F3/8+ C3/8+ G2/8+ : 1 2 3 4 5 6 7 8"},
		{lute, "C 1i; - 1h; - 2i", 8, "C 1a; - ~; - 2a", "1.1 note", "Eb5/0 Bb4/0 F4/0 C#4/0+ G#3/0+ Eb3/0+ :"},
		{lute, "| C. 1d.( 2d:#; | Q3 ~; - %; - 1i", 3, "| C. 1a.( 2a:#; | Q3 ~; - %; - 1f", "", "Bb4/5 F4/5 C4/5 G#3/5+ Eb3/5+ Bb2/5+ : 1 2 3 4 5"},
		{lute, "C 1a; - ~; - 1b 2b; - 1c", 2, "C %; - ~; - ~; - 1a", "0.1 note, 2.1 note, 2.2 note", "A4/6 E4/6 B3/6 G3/6+ D3/6+ A2/6+ : 1 2 3 4 5 6"},
		{lute, "C 1c.(_1 2d_1; - ~", 2, "C 1a.( 2b_1; - ~", "0.1 hold", "A4/6 E4/6 B3/6 G3/6+ D3/6+ A2/6+ : 1 2 3 4 5 6"},
		{theorbo, "C 1a 2b 7a 14a; - 8a", 1, "C 2a 7a 14a; - 8a", "0.1 note", "Bb3/7 F3/7 C4/7 G#3/7 Eb3/7 Bb2/7 G2/0 F2/0 E2/0 D2/0 C2/0 B1/0 A1/0 G1/0 : 1 2 3 4 5 6 7"},
		{cittern, "C 1a 2b 3c 4k", 1, "C 2a 3b 4i", "0.1 note", "F#4/8 E4/8 A3/8 C#4/8 : 1 2 3 5 7 8 9 10"},
	} {
		got := of(convey.Capo(made(c.in, c.before), c.fret))
		in, _ := instrument.Capo(c.in, c.fret)
		if !piece.Same(got.p, made(in, c.want)) || told(got.lost) != c.lost || got.e != api.OK {
			t.Errorf("Capo(%s, %d) = %s, %s, %d", c.before, c.fret, shown(got.p), told(got.lost), got.e)
		}
		if text, _ := instrument.Format(got.p.Instrument); text != c.capped {
			t.Errorf("Capo(%s, %d) is for %s", c.before, c.fret, text)
		}
	}
}

// P4.6: the errors and their order.
func TestCapoErrors(t *testing.T) {
	p := made(standard("lute6"), "C 1a 6b")
	for _, fret := range hostile {
		want := failed(api.ErrFret)
		if fret >= 0 && fret <= 8 {
			want = capped(p, fret)
		}
		wants(t, fmt.Sprint("Capo at ", fret), of(convey.Capo(p, fret)), want)
		for _, b := range broken() {
			wants(t, fmt.Sprintf("Capo at %d of %s", fret, b.name), of(convey.Capo(b.p, fret)), failed(b.e))
		}
	}
	short := made(built("G4/2 D4/1 A3/0 : 1 2"), "C 1c 3a")
	wants(t, "Capo at 1", of(convey.Capo(short, 1)), capped(short, 1))
	wants(t, "Capo at 2", of(convey.Capo(short, 2)), failed(api.ErrFret))
}

// P4.7: pieces that are written out.
func TestReleaseWritten(t *testing.T) {
	lute, theorbo := standard("lute6"), standard("theorbo14")
	for _, c := range []struct {
		in           api.Instrument
		fret         int
		before, want string
	}{
		{lute, 2, "C 1a 2a", "C 1c 2c"},
		{lute, 2, "", ""},
		{lute, 0, "C 1b.#_1; | - ~; Q3 %", "C 1b.#_1; | - ~; Q3 %"},
		{lute, 2, "| C. 1b.#_1 2a:; | - ~; Q3 %; - 1g", "| C. 1d.#_1 2c:; | - ~; Q3 %; - 1i"},
		{lute, 8, "C 1a", "C 1i"},
		{theorbo, 1, "C 1a 6h 7a 14a", "C 1b 6i 7a 14a"},
	} {
		in, _ := instrument.Capo(c.in, c.fret)
		got := lossless(convey.Release(made(in, c.before), c.in, c.fret))
		if !piece.Same(got.p, made(c.in, c.want)) || got.e != api.OK {
			t.Errorf("Release(%s, %d) = %s, %d", c.before, c.fret, shown(got.p), got.e)
		}
	}
}

// P4.7: the errors and their order.
func TestReleaseErrors(t *testing.T) {
	lute := standard("lute6")
	in, _ := instrument.Capo(lute, 2)
	p := made(in, "C 1a")
	for _, fret := range hostile {
		want := failed(api.ErrFret)
		if fret >= 0 && fret <= 8 {
			want = released(p, lute, fret)
		}
		wants(t, fmt.Sprint("Release at ", fret), lossless(convey.Release(p, lute, fret)), want)
		for _, b := range broken() {
			wants(t, fmt.Sprintf("Release at %d of %s", fret, b.name), lossless(convey.Release(b.p, lute, fret)), failed(b.e))
			if e := instrument.Check(b.p.Instrument); e != api.OK {
				wants(t, fmt.Sprintf("Release at %d for the instrument of %s", fret, b.name), lossless(convey.Release(p, b.p.Instrument, fret)), failed(e))
			}
		}
	}
	for i, other := range []func(in *api.Instrument){
		func(in *api.Instrument) { in.Courses[3].Octave = false },
		func(in *api.Instrument) { in.Courses[3].Pitch++ },
		func(in *api.Instrument) { in.Courses[3].Frets-- },
		func(in *api.Instrument) { in.Courses = in.Courses[:5] },
		func(in *api.Instrument) { in.Steps[5]++ },
		func(in *api.Instrument) { in.Steps = append(in.Steps, 7) },
	} {
		q := copied(p)
		other(&q.Instrument)
		wants(t, fmt.Sprint("Release from another instrument, ", i), lossless(convey.Release(q, lute, 2)), failed(api.ErrInstrument))
		wants(t, fmt.Sprint("Release from another instrument, at 9, ", i), lossless(convey.Release(q, lute, 9)), failed(api.ErrFret))
	}
	short := built("G4/2 D4/1 : 1 2")
	wants(t, "Release behind a short course", lossless(convey.Release(p, short, 2)), failed(api.ErrFret))
}

// P4.8: every piece, as the document says.
func TestSlide(t *testing.T) {
	r := rand.New(rand.NewPCG(35, 36))
	met := map[api.Errno]int{}
	for _, p := range pieces() {
		// Notes in the middle of the neck, that have somewhere to go.
		for i, ev := range p.Events {
			for j, st := range ev.Stops {
				if frets := p.Instrument.Courses[st.Course-1].Frets; frets > 6 && r.IntN(30) > 0 {
					p.Events[i].Stops[j].Fret = 3 + st.Fret%(frets-5)
				}
			}
		}
		for by := -4; by <= 4; by++ {
			want := slid(p, by)
			wants(t, fmt.Sprintf("Slide(%s, %d)", shown(p), by), lossless(convey.Slide(p, by)), want)
			met[want.e]++
		}
	}
	if met[api.OK] < 500 || met[api.ErrFret] < 500 {
		t.Errorf("%v", met)
	}
}

// P4.8: pieces that are written out, and the errors in their order.
func TestSlideWritten(t *testing.T) {
	theorbo := standard("theorbo14")
	for _, c := range []struct {
		before string
		by     int
		want   string
		e      api.Errno
	}{
		{"", 18, "", api.OK}, {"", -18, "", api.OK}, {"", 19, "", api.ErrArg}, {"", -19, "", api.ErrArg},
		{"| C. 1b.#_1 2c:( 7a; | - ~; Q3 %; - 1h 14a", 1, "| C. 1c.#_1 2d:( 7a; | - ~; Q3 %; - 1i 14a", api.OK},
		{"| C. 1b.#_1 2c:(_1 7a; | - ~; Q3 %; - 1h 14a", -1, "| C. 1a.# 2b:(_1 7a; | - ~; Q3 %; - 1g 14a", api.OK},
		{"C 1b_1 7a; - ~", 0, "C 1b_1 7a; - ~", api.OK},
		{"C 7a; - 14a", 18, "C 7a; - 14a", api.OK},
		{"C 7a; - 14a", -18, "C 7a; - 14a", api.OK},
		{"C 1a", 8, "C 1i", api.OK}, {"C 1a", 9, "", api.ErrFret}, {"C 1i", -8, "C 1a", api.OK}, {"C 1i", -9, "", api.ErrFret},
		{"C 1c; - 2b; - 1c", -2, "", api.ErrFret}, {"C 1c 2b; - 1c", -2, "", api.ErrFret}, {"C 1c; - 1c 6h", 2, "", api.ErrFret},
		{"C 1a", 19, "", api.ErrArg}, {"C 1a", -19, "", api.ErrArg}, {"C 1a", 18, "", api.ErrFret}, {"C 1a", -18, "", api.ErrFret},
	} {
		want := failed(c.e)
		if c.e == api.OK {
			want.p = made(theorbo, c.want)
		}
		wants(t, fmt.Sprintf("Slide(%s, %d)", c.before, c.by), lossless(convey.Slide(made(theorbo, c.before), c.by)), want)
	}
	for _, by := range hostile {
		p := made(theorbo, "C 1e")
		wants(t, fmt.Sprint("Slide by ", by), lossless(convey.Slide(p, by)), slid(p, by))
		for _, b := range broken() {
			wants(t, fmt.Sprintf("Slide by %d of %s", by, b.name), lossless(convey.Slide(b.p, by)), failed(b.e))
		}
	}
}

// P4.12: what remains has its pitch, its course and its event, and what does not is declared.
func TestNothingElseChanges(t *testing.T) {
	r := rand.New(rand.NewPCG(37, 38))
	for _, p := range pieces() {
		course, by, fret := 1+r.IntN(len(p.Instrument.Courses)), r.IntN(9)-4, r.IntN(4)
		for call, got := range map[string]result{
			fmt.Sprintf("Retune(%d, %d)", course, by): of(convey.Retune(p, course, by)),
			fmt.Sprintf("Capo(%d)", fret):             of(convey.Capo(p, fret)),
		} {
			if got.e != api.OK {
				continue
			}
			if missing := missingNotes(p, got.p); missing != told(notesAmong(got.lost)) || piece.Check(got.p) != api.OK {
				t.Fatalf("%s of %s = %s without %s, but declares %s", call, shown(p), shown(got.p), missing, told(got.lost))
			}
		}
	}
}

// missingNotes tells which notes of a piece another one does not have at the same pitch and course.
func missingNotes(p, q api.Piece) string {
	var missing []api.Lack
	for i, ev := range p.Events {
		found := 0
		for _, st := range ev.Stops {
			same := 0
			for _, other := range q.Events[i].Stops {
				if other.Course == st.Course && pitchOf(q.Instrument, other) == pitchOf(p.Instrument, st) {
					same++
				}
			}
			if same == 0 {
				missing = append(missing, api.Lack{Event: i, Course: st.Course, What: api.LackNote})
			}
			found += same
		}
		if found != len(q.Events[i].Stops) {
			return fmt.Sprint("other notes in event ", i)
		}
	}
	return told(missing)
}

func notesAmong(l []api.Lack) []api.Lack {
	var notes []api.Lack
	for _, lack := range l {
		if lack.What == api.LackNote {
			notes = append(notes, lack)
		}
	}
	return notes
}

// P4.13: what is lossless can be undone.
func TestUndone(t *testing.T) {
	r := rand.New(rand.NewPCG(39, 40))
	retunings, capos := 0, 0
	for range 2000 {
		p := random(r, anyInstrument(r), r.IntN(4))
		course, by, fret := 1+r.IntN(len(p.Instrument.Courses)), r.IntN(9)-4, r.IntN(4)
		if got := of(convey.Retune(p, course, by)); got.e == api.OK && len(got.lost) == 0 {
			wants(t, fmt.Sprintf("Retune of %s by %d, and back", shown(p), by), of(convey.Retune(got.p, course, -by)), lossless(p, api.OK))
			retunings++
		}
		if got := of(convey.Capo(p, fret)); got.e == api.OK && len(got.lost) == 0 {
			wants(t, fmt.Sprintf("Release of %s at %d", shown(p), fret), lossless(convey.Release(got.p, p.Instrument, fret)), lossless(p, api.OK))
			capos++
		}
	}
	if retunings < 200 || capos < 200 {
		t.Errorf("only %d retunings and %d capos", retunings, capos)
	}
}
