package convey_test

import (
	"cmp"
	"fmt"
	"math/bits"
	"math/rand/v2"
	"slices"
	"testing"

	"theorbo/api"
	"theorbo/convey"
	"theorbo/instrument"
	"theorbo/piece"
)

// pitchOf returns the pitch of a stop of a valid piece.
func pitchOf(in api.Instrument, st api.Stop) int {
	pitch, e := instrument.At(in, api.Place{Course: st.Course, Fret: st.Fret})
	if e != api.OK {
		panic(e)
	}
	return pitch
}

// fretFor returns the fret of a course that has a pitch.
func fretFor(in api.Instrument, course, pitch int) (int, bool) {
	for fret := range in.Courses[course-1].Frets + 1 {
		if pitchOf(in, api.Stop{Course: course, Fret: fret}) == pitch {
			return fret, true
		}
	}
	return 0, false
}

// coursesFor returns the set of the courses that have a pitch.
func coursesFor(in api.Instrument, pitch int) uint {
	var set uint
	for course := range in.Courses {
		if _, ok := fretFor(in, course+1, pitch); ok {
			set |= 1 << (course + 1)
		}
	}
	return set
}

// marriable tells by Hall's theorem whether each of some sets of courses can give a course of its own.
func marriable(sets []uint) bool {
	return mostMarried(sets) == len(sets)
}

// mostMarried returns how many sets can at most give a course of their own.
func mostMarried(sets []uint) int {
	most := len(sets)
	for some := range 1 << len(sets) {
		var union uint
		for i, set := range sets {
			if some>>i&1 == 1 {
				union |= set
			}
		}
		most = min(most, len(sets)-bits.OnesCount(uint(some))+bits.OnesCount(union))
	}
	return most
}

// importance returns the numbers of the notes of a chord by their importance.
func importance(targets []int) []int {
	var rank []int
	for i := range targets {
		rank = append(rank, i)
	}
	slices.SortFunc(rank, func(i, j int) int {
		return cmp.Or(targets[j]-targets[i], i-j)
	})
	if len(rank) < 3 {
		return rank
	}
	return slices.Concat(rank[:1], rank[len(rank)-1:], rank[1:len(rank)-1])
}

// fitChord fits a chord as the document says.
func fitChord(p api.Piece, stops []api.Stop, to api.Instrument, by int) []*api.Stop {
	var targets []int
	var sets []uint
	for _, st := range stops {
		targets = append(targets, pitchOf(p.Instrument, st)+by)
		sets = append(sets, coursesFor(to, targets[len(targets)-1]))
	}
	kept := map[int]bool{}
	var keptSets []uint
	for _, i := range importance(targets) {
		if marriable(append(slices.Clone(keptSets), sets[i])) {
			kept[i] = true
			keptSets = append(keptSets, sets[i])
		}
	}
	fates := make([]*api.Stop, len(stops))
	var taken uint
	for i, st := range stops {
		if !kept[i] {
			continue
		}
		best := api.Stop{Fret: 99}
		for course := 1; course <= len(to.Courses); course++ {
			fret, ok := fretFor(to, course, targets[i])
			if !ok || taken>>course&1 == 1 || fret >= best.Fret {
				continue
			}
			var behind []uint
			for j := i + 1; j < len(stops); j++ {
				if kept[j] {
					behind = append(behind, sets[j]&^taken&^(1<<course))
				}
			}
			if marriable(behind) {
				best = api.Stop{Course: course, Fret: fret, Right: st.Right, Grace: st.Grace, Hold: st.Hold}
			}
		}
		taken |= 1 << best.Course
		fates[i] = &best
	}
	return fates
}

func fitted(p api.Piece, to api.Instrument, by int) result {
	var fates [][]*api.Stop
	for _, ev := range p.Events {
		fates = append(fates, fitChord(p, ev.Stops, to, by))
	}
	return carriedOver(p, to, fates)
}

// small are pieces whose chords have at most 8 notes, for what is done with all subsets of a chord.
func small() []api.Piece {
	var l []api.Piece
	for _, p := range pieces() {
		for i, ev := range p.Events {
			p.Events[i].Stops = ev.Stops[:min(len(ev.Stops), 8)]
		}
		l = append(l, p)
	}
	return l
}

// P4.4: every piece, on an instrument of any kind, as the document says.
func TestFit(t *testing.T) {
	r := rand.New(rand.NewPCG(21, 22))
	losses := map[int]int{}
	for _, p := range small() {
		for _, by := range []int{0, 0, r.IntN(25) - 12, r.IntN(255) - 127} {
			to := anyInstrument(r)
			got, want := of(convey.Fit(p, to, by)), fitted(p, to, by)
			wants(t, fmt.Sprintf("Fit(%s, %v, %d)", shown(p), to, by), got, want)
			for _, lack := range want.lost {
				losses[lack.What]++
			}
		}
	}
	if losses[api.LackNote] < 1000 || losses[api.LackHold] < 100 || len(losses) > 2 {
		t.Errorf("losses: %v", losses)
	}
}

// P4.4: chords of up to 14 notes, for which there are many equal frets and targets.
func TestFitFullChords(t *testing.T) {
	r := rand.New(rand.NewPCG(25, 26))
	in := api.Instrument{Courses: slices.Repeat([]api.Course{{Pitch: 60, Frets: 2}}, 14), Steps: []int{1, 2}}
	for count := range 12 {
		to := api.Instrument{Steps: []int{1, 2}}
		for range 14 {
			to.Courses = append(to.Courses, api.Course{Pitch: 58 + r.IntN(4), Frets: 2})
		}
		p := api.Piece{Instrument: in, Events: []api.Event{{Sign: api.Sign{Value: 4}}}}
		for course := range 14 {
			if course != count {
				p.Events[0].Stops = append(p.Events[0].Stops, api.Stop{Course: course + 1, Fret: r.IntN(3)})
			}
		}
		wants(t, fmt.Sprintf("Fit(%s, %v)", shown(p), to), of(convey.Fit(p, to, 0)), fitted(p, to, 0))
	}
}

// P4.4: pieces that are written out.
func TestFitWritten(t *testing.T) {
	lute, guitar := standard("lute6"), standard("guitar4")
	one := built("C4/18 : 1 2 3 4 5 6 7 8 9 10 11 12 13 14 15 16 17 18")
	for _, c := range []struct {
		in         api.Instrument
		before     string
		to         api.Instrument
		by         int
		want, lost string
	}{
		{lute, "C 1c", guitar, 0, "C 1a", ""},
		{lute, "C 1c", guitar, -3, "C 2c", ""},
		// What stays.
		{lute, "", guitar, 0, "", ""},
		{lute, "| C. 1c.,; | Q3 ~; - %; - 1c", guitar, 0, "| C. 1a.,; | Q3 ~; - %; - 1a", ""},
		{lute, "C 1c:( 2d'#", guitar, 0, "C 1a:( 2b'#", ""},
		{lute, "C 1a 2a 3a 4a 5a 6a", lute, 0, "C 1a 2a 3a 4a 5a 6a", ""},
		// The highest note, the lowest one, the others downwards; of equal ones the lowest course.
		{lute, "C 1a. 3a: 6a'", built("G2/2 G2/2 : 14 24"), 0, "C 1c. 2a'", "0.3 note"},
		{lute, "C 1a. 3a: 6a'", built("G2/2 : 14 24"), 0, "C 1c.", "0.3 note, 0.6 note"},
		{lute, "C 1a 2a 3a 6a", built("G2/3 G2/3 G2/3 : 14 19 24"), 0, "C 1d 2c 3a", "0.3 note"},
		{lute, "C 1a 3a 5a 6a", built("G2/2 G2/2 G2/2 : 14 24"), 0, "C 1c 2b 3a", "0.5 note"},
		{lute, "C 1a 3a 5a 6a", built("G2/2 C3/0 : 14 24"), 0, "C 1c 2a", "0.3 note, 0.6 note"},
		{lute, "C 1a. 2f:", one, 0, "C 1h.", "0.2 note"},
		{standard("vihuela6"), "C 1a. 2f: 3l'", built("G4/0 G4/0 :"), 0, "C 1a. 2a'", "0.2 note"},
		{standard("vihuela6"), "C 2f. 3l: 4a'", built("F3/1 F3/1 : 14"), 0, "C 1b. 2a'", "0.3 note"},
		// The lowest fret, of equal ones the lowest course, unless a note behind needs it.
		{lute, "C 1b.( 2g:#", built("D4/8 G4/8 C4/8 : 1 2 3 4 5 6 7 8"), 0, "C 1g:# 2b.(", ""},
		{lute, "C 1a. 2f:", built("G4/0 F4/2 E4/3 : 1 2 3"), 0, "C 1a. 2c:", ""},
		{lute, "C 1a. 2f:", built("E4/3 F4/2 G4/0 : 1 2 3"), 0, "C 2c: 3a.", ""},
		{lute, "C 1a.", built("E4/3 G4/0 G4/0 F4/2 : 1 2 3"), 0, "C 2a.", ""},
		{lute, "C 1a. 2g:", built("F4/2 G4/1 : 1 2"), 0, "C 1c. 2b:", ""},
		{lute, "C 1b. 2f:", built("F4/2 G4/1 : 1 2"), 0, "C 1c: 2b.", ""},
		{lute, "C 1a. 2f: 3i'", built("G4/0 G4/0 F4/2 : 1 2"), -2, "C 3a.", "0.2 note, 0.3 note"},
		// Targets that are no pitches, and the ends of the pitches.
		{lute, "C 1a 2a; - 6a", guitar, 127, "C %; - ~", "0.1 note, 0.2 note, 1.6 note"},
		{lute, "C 1a 2a; - 6a", guitar, -127, "C %; - ~", "0.1 note, 0.2 note, 1.6 note"},
		{lute, "C 1a 6a", built("G9/0 :"), 60, "C 1a", "0.6 note"},
		{lute, "C 1a 6a", built("C-1/0 :"), -43, "C 1a", "0.1 note"},
		// Bare events.
		{lute, "C 1a; - 1i 2d; | Q. 6a", one, 0, "C 1h; - 1q; | Q. ~", "1.2 note, 2.6 note"},
		{lute, "C 6a; - ~; - 6a; - %; - 1a", one, 0, "C %; - ~; - ~; - %; - 1h", "0.6 note, 2.6 note"},
		// Holds: on a fret that is 0 now, up to a note that has come to the course, behind one that is left out.
		{lute, "C 1c_2; - 2a; - ~", guitar, 0, "C 1a; - 3c; - ~", "0.1 hold"},
		{lute, "C 1d_2; - 2a; - ~", guitar, 0, "C 1b_2; - 3c; - ~", ""},
		{lute, "C 1d_2; - 2g; - 2a", lute, 0, "C 1d; - 1b; - 2a", "0.1 hold"},
		{lute, "C 2g_2; - 1a; - ~", lute, 0, "C 1b; - 1a; - ~", "0.2 hold"},
		{lute, "C 2g_2; - 3a; - 1a", lute, 0, "C 1b_1; - 3a; - 1a", "0.2 hold"},
		{lute, "C 1d.(_1; - 3a; - 1a", one, 0, "C 1l.(_1; - ~; - 1h", "1.3 note"},
	} {
		got := of(convey.Fit(made(c.in, c.before), c.to, c.by))
		if !piece.Same(got.p, made(c.to, c.want)) || told(got.lost) != c.lost || got.e != api.OK {
			t.Errorf("Fit(%s, %v, %d) = %s, %s, %d", c.before, c.to, c.by, shown(got.p), told(got.lost), got.e)
		}
	}
}

// P4.4: the errors and their order.
func TestFitErrors(t *testing.T) {
	good := made(standard("lute6"), "C 1a")
	for _, b := range broken() {
		for _, by := range []int{0, 128} {
			wants(t, "Fit of "+b.name, of(convey.Fit(b.p, good.Instrument, by)), failed(b.e))
			wants(t, "Fit of "+b.name+" to nothing", of(convey.Fit(b.p, api.Instrument{}, by)), failed(b.e))
			if e := instrument.Check(b.p.Instrument); e != api.OK {
				wants(t, "Fit to the instrument of "+b.name, of(convey.Fit(good, b.p.Instrument, by)), failed(e))
			}
		}
	}
	for _, by := range hostile {
		want := failed(api.ErrArg)
		if by >= -127 && by <= 127 {
			want = fitted(good, standard("guitar4"), by)
		}
		wants(t, fmt.Sprint("Fit by ", by), of(convey.Fit(good, standard("guitar4"), by)), want)
	}
}

// P4.4: as many notes and courses as there may be, all of one pitch.
func TestFitMany(t *testing.T) {
	flat := func(courses int) api.Instrument {
		return api.Instrument{Courses: slices.Repeat([]api.Course{{Pitch: 60, Frets: 1}}, courses), Steps: []int{1}}
	}
	p := api.Piece{Instrument: flat(14)}
	for i := range 400 {
		ev := api.Event{Sign: api.Sign{Value: 4}}
		for course := range 14 {
			ev.Stops = append(ev.Stops, api.Stop{Course: course + 1, Fret: i % 2})
		}
		p.Events = append(p.Events, ev)
	}
	wants(t, "Fit to 14 courses", of(convey.Fit(p, flat(14), 0)), result{p: p})
	got := of(convey.Fit(p, flat(13), 0))
	if got.e != api.OK || len(got.lost) != 400 {
		t.Fatalf("Fit to 13 courses: %d, %d losses", got.e, len(got.lost))
	}
	for i, lack := range got.lost {
		// The first and the last one of the rank are kept before the others.
		if lack != (api.Lack{Event: i, Course: 13, What: api.LackNote}) {
			t.Fatalf("Fit to 13 courses loses %v", lack)
		}
	}
}

// P4.12: the same instrument takes every note.
func TestFitToTheSame(t *testing.T) {
	for _, p := range pieces() {
		q, lost, e := convey.Fit(p, p.Instrument, 0)
		if e != api.OK || slices.ContainsFunc(lost, func(l api.Lack) bool { return l.What != api.LackHold }) {
			t.Fatalf("Fit of %s to the same = %s, %s, %d", shown(p), shown(q), told(lost), e)
		}
	}
}

// P4.12: kept and declared notes are all notes, and no more can be kept.
func TestFitLaws(t *testing.T) {
	r := rand.New(rand.NewPCG(23, 24))
	for _, p := range small() {
		to, by := anyInstrument(r), r.IntN(15)-7
		got := of(convey.Fit(p, to, by))
		if got.e != api.OK || piece.Check(got.p) != api.OK {
			t.Fatalf("Fit(%s, %v, %d) = %s, %d", shown(p), to, by, shown(got.p), got.e)
		}
		for i, ev := range p.Events {
			var all, kept []int
			var sets []uint
			for _, st := range ev.Stops {
				target := pitchOf(p.Instrument, st) + by
				all = append(all, target)
				sets = append(sets, coursesFor(to, target))
				if slices.Contains(got.lost, api.Lack{Event: i, Course: st.Course, What: api.LackNote}) {
					kept = append(kept, target)
				}
			}
			for _, st := range got.p.Events[i].Stops {
				kept = append(kept, pitchOf(to, st))
			}
			slices.Sort(all)
			slices.Sort(kept)
			if !slices.Equal(all, kept) || len(got.p.Events[i].Stops) != mostMarried(sets) {
				t.Fatalf("event %d of Fit(%s, %v, %d) = %s, %s", i, shown(p), to, by, shown(got.p), told(got.lost))
			}
		}
	}
}
