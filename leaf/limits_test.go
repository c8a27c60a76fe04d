package leaf_test

import (
	"fmt"
	"math/rand/v2"
	"slices"
	"strings"
	"testing"

	"theorbo/api"
	"theorbo/hand"
	"theorbo/leaf"
)

// faultOf returns the error of the functions that search; all of them are to have the same one, but for Count and Stuck if there is no reading. For Stuck it returns the column, too.
func faultOf(t *testing.T, k problem) (at int, e api.Errno) {
	t.Helper()
	l, e := leaf.List(k.f, k.r, 1)
	if (e == api.OK) != (len(l) == 1) {
		t.Fatalf("List of %v = %v, %d", k, l, e)
	}
	n, fault := leaf.Count(k.f, k.r)
	if e == api.ErrNoReading && (fault != api.OK || n != 0) || e != api.ErrNoReading && fault != e || fault != api.OK && n != 0 {
		t.Fatalf("Count of %v = %d, %d; the error of List is %d", k, n, fault, e)
	}
	f, fault := leaf.Narrow(k.f, k.r)
	if fault != e || e != api.OK && !isNothing(f) {
		t.Fatalf("Narrow of %v = %v, %d; the error of List is %d", k, f, fault, e)
	}
	near, differences, fault := leaf.Nearest(k.f, k.r, plainestOf(k.f))
	if fault != e || e != api.OK && (differences != 0 || !noPiece(near)) {
		t.Fatalf("Nearest of %v = %v, %d, %d; the error of List is %d", k, near, differences, fault, e)
	}
	at, fault = leaf.Stuck(k.f, k.r)
	want := e
	switch e {
	case api.OK:
		want = api.ErrNone
	case api.ErrNoReading:
		want = api.OK
	}
	if fault != want || fault != api.OK && at != 0 {
		t.Fatalf("Stuck of %v = %d, %d; the error of List is %d", k, at, fault, e)
	}
	return at, e
}

// plainestOf returns a piece that has as many events as a leaf has columns, all of them rests.
func plainestOf(f api.Leaf) api.Piece {
	return api.Piece{Instrument: f.Instrument, Events: slices.Repeat([]api.Event{{Sign: api.Sign{Value: 4}}}, len(f.Columns))}
}

// gut is an instrument with some courses of 18 frets each, and octave a hand with one position at which each of four fingers reaches the frets from 1 to 9.
func gut(courses int) string {
	return strings.Repeat("G3/18 ", courses) + ": 1 2 3 4 5 6 7 8 9 10 11 12 13 14 15 16 17 18"
}

func octopus() api.Hand {
	return api.Hand{Low: []int{0, 0, 0, 0}, High: []int{8, 8, 8, 8}, Barre: []bool{false, false, false, false}, Top: 1}
}

const (
	ten = "-/0/1/2/3/4/5/6/7/8"
	all = "-/0/1/2/3/4/5/6/7/8/9/10/11/12/13/14/15/16/17/18"
	// eight signs of as many different lengths.
	eight = "2/3/3t/3./4/4t/4./5"
)

// The first limit: 1000 readings of a column.
func TestManyChoices(t *testing.T) {
	most := api.Rules{Hand: octopus()}
	for _, c := range []struct {
		name string
		k    problem
		at   int
		want api.Errno
	}{
		{"1000 readings of notes", problem{made(gut(3), fmt.Sprintf(". 4 %s %s %s", ten, ten, ten)), most}, 0, api.OK},
		{"1000 readings of signs and notes", problem{made(gut(3), fmt.Sprintf(". 3/4 %s %s -/0/1/2/3", ten, ten)), most}, 0, api.OK},
		{"1001 readings", problem{made(gut(3), ". 1/1t/1./2/2t/2./3 -/0/1/2/3/4/5/6/7/8/9 - -/0/1/2/3/4/5/6/7/8/9/10/11"), most}, 0, api.ErrMany},
		{"2000 readings", problem{made(gut(3), fmt.Sprintf(". 3/4 %s %s %s", ten, ten, ten)), most}, 0, api.ErrMany},
		{"20^14 readings", problem{made(gut(14), ". 4"+strings.Repeat(" "+all, 14)), most}, 0, api.ErrMany},
		{"21 * 20^14 readings", problem{made(gut(14), ". 1/1t/1./2/2t/2./3/3t/3./4/4t/4./5/5t/5./6/6t/6./7/7t/7."+strings.Repeat(" "+all, 14)), most}, 0, api.ErrMany},
		{"2000 readings that are all too long", problem{made(gut(3), fmt.Sprintf(". 2/3 %s %s %s", ten, ten, ten)), api.Rules{Hand: octopus(), Measure: 12}}, 0, api.ErrMany},
		{"2000 readings behind nothing", problem{made(gut(3), fmt.Sprintf(". 4 18 - -; . 3/4 %s %s %s", ten, ten, ten)), most}, 0, api.ErrNoReading},
		{"2000 readings behind something", problem{made(gut(3), fmt.Sprintf(". 4 - - -; . 3/4 %s %s %s", ten, ten, ten)), most}, 0, api.ErrMany},
		{"nothing behind 2000 readings", problem{made(gut(3), fmt.Sprintf(". 3/4 %s %s %s; . 4 18 - -", ten, ten, ten)), most}, 0, api.ErrMany},
	} {
		if at, e := faultOf(t, c.k); e != c.want || at != c.at {
			t.Errorf("%s: %d at %d; it should be %d at %d", c.name, e, at, c.want, c.at)
		}
	}
}

// grasping are a hand at whose position 1 exactly 200 grips fit the chord with four notes on the fret 9, and one with one more.
func grasping() (just, over api.Hand) {
	just, over = octopus(), octopus()
	just.Barre, just.Top, just.Jump = []bool{true, true, true, true}, 18, 18
	over.Barre, over.Top, over.Jump = just.Barre, 18, 18
	// Of k fingers four places on one fret get 1, 5, 15 or 35 choices of fingers.
	just.Low, just.High = []int{0, 0, 0, 4}, []int{7, 7, 7, 7}
	over.Low = []int{0, 1, 1, 5}
	return just, over
}

// The second limit: 200 grips of a chord, if the columns before and the other rules allow it.
func TestManyGrips(t *testing.T) {
	just, over := grasping()
	in := gut(5)
	if l, e := hand.Grips(just, api.Chord{Down: []api.Place{{Course: 1, Fret: 9}, {Course: 2, Fret: 9}, {Course: 3, Fret: 9}, {Course: 4, Fret: 9}}}); len(l) != 200 || e != api.OK {
		t.Fatalf("%d grips, %d", len(l), e)
	}
	for _, c := range []struct {
		name    string
		columns string
		r       api.Rules
		at      int
		want    api.Errno
	}{
		{"200 grips", ". 4 9 9 9 9 -", api.Rules{Hand: just}, 0, api.OK},
		{"201 grips", ". 4 9 9 9 9 -", api.Rules{Hand: over}, 0, api.ErrMany},
		{"201 grips of the last reading", ". 4 0/9 9 9 9 -", api.Rules{Hand: over}, 0, api.ErrMany},
		{"201 grips of a discord", ". 4 - 9 9 9 -/9", api.Rules{Hand: over, Concord: true}, 0, api.OK},
		{"201 grips of a concord", ". 4 9 9 9 9 -", api.Rules{Hand: over, Concord: true}, 0, api.ErrMany},
		{"201 grips in a long measure", ". 3 9 9 9 9 -", api.Rules{Hand: over, Measure: 48}, 0, api.ErrNoReading},
		{"201 grips with a sign that fits", ". 3/4 9 9 9 9 -", api.Rules{Hand: over, Measure: 48}, 0, api.ErrMany},
		{"201 grips behind a measure that is not full", ". 4 - - - - -; | 4 - - - - -; | 4 9 9 9 9 -", api.Rules{Hand: over, Measure: 49}, 2, api.ErrNoReading},
		{"201 grips behind a full measure", ". 4 - - - - -; | 4 - - - - -; | 4 9 9 9 9 -", api.Rules{Hand: over, Measure: 48}, 0, api.ErrMany},
		{"201 grips behind nothing", ". 4 18 1 - - -; . 4 9 9 9 9 -", api.Rules{Hand: over}, 0, api.ErrNoReading},
		{"201 grips to which no step leads", ". 4 18 - - - -; . 4 9 9 9 9 -", api.Rules{Hand: reachless(over)}, 0, api.ErrMany},
		{"201 grips with an open course below", ". 4 - - - - 0; . 4 9 9 9 9 -", api.Rules{Hand: over}, 0, api.ErrMany},
		{"201 grips in a tie", ". 4 9 9 9 9 -; ~ 4 - - - - -", api.Rules{Hand: over}, 0, api.ErrMany},
		{"200 grips in a tie", ". 4 9 9 9 9 -; ~ 4 - - - - -; . 4 9 9 9 9 -", api.Rules{Hand: just}, 0, api.OK},
		{"nothing behind 201 grips", ". 4 9 9 9 9 -; . 4 18 1 - - -", api.Rules{Hand: over}, 0, api.ErrMany},
	} {
		f := made(in, c.columns)
		for i := range f.Instrument.Courses {
			f.Instrument.Courses[i].Pitch = 55
		}
		f.Instrument.Courses[4].Pitch = 56
		k := problem{f, c.r}
		if o := searched(k.f, k.r); o.e != c.want || o.e == api.ErrNoReading && o.at != c.at {
			t.Errorf("%s: the model finds %v", c.name, o)
		}
		if at, e := faultOf(t, k); e != c.want || at != c.at {
			t.Errorf("%s: %d at %d; it should be %d at %d", c.name, e, at, c.want, c.at)
		}
	}
}

// reachless returns a hand that does not shift.
func reachless(h api.Hand) api.Hand {
	h.Jump = 0
	return h
}

// An open string that rings on can take grips away, so that there are not too many.
func TestManyGripsRinging(t *testing.T) {
	_, over := grasping()
	f := made(gut(5), ". 4 - - 0 - -; . 4 9 9 - 9 9")
	if at, e := faultOf(t, problem{f, api.Rules{Hand: over}}); e != api.OK || at != 0 {
		t.Errorf("%d at %d", e, at)
	}
	f = made(gut(5), ". 4 - - - - -; . 4 9 9 - 9 9")
	if at, e := faultOf(t, problem{f, api.Rules{Hand: over}}); e != api.ErrMany || at != 0 {
		t.Errorf("%d at %d; without the open string it should be %d", e, at, api.ErrMany)
	}
}

// The third limit: 1000 situations behind a column that is not the last one.
func TestManySituations(t *testing.T) {
	// A finger at a position of 18, which never shifts: the frets played so far tell the possible positions.
	still := api.Hand{Low: []int{0}, High: []int{8}, Barre: []bool{false}, Top: 18}
	frets := "1/2/3/4/5/6/7/8/9/10/11/12/13/14/15/16/17/18"
	for _, c := range []struct {
		name    string
		columns string
		r       api.Rules
		most    int
		want    api.Errno
	}{
		{"1000 chords", fmt.Sprintf(". 4 %s %s %s; . 4 - - -", ten, ten, ten), api.Rules{Hand: octopus()}, 1000, api.OK},
		{"1000 chords and a tie", fmt.Sprintf(". 4 %s %s %s; ~ 4 - - -; . 4 - - -", ten, ten, ten), api.Rules{Hand: octopus()}, 1000, api.OK},
		{"1000 chords, and a tie of two lengths", fmt.Sprintf(". 4 %s %s %s; ~ 4/5 - - -; . 4 - - -", ten, ten, ten), api.Rules{Hand: octopus(), Measure: 96}, 2000, api.ErrMany},
		{"1000 chords, and a tie of two lengths, one of which is too long", fmt.Sprintf(". 4 %s %s %s; ~ 4/5 - - -; . 4 - - -", ten, ten, ten), api.Rules{Hand: octopus(), Measure: 95}, 1000, api.ErrNoReading},
		{"1000 chords, and a string that may ring on", fmt.Sprintf(". 4 - - 0; . 4 %s %s -; . 4 - - -", ten, ten), api.Rules{Hand: octopus()}, 100, api.OK},
		{"eight times", fmt.Sprintf(". %s - - -; . 4 %s %s -; . 4 - - -", eight, ten, ten), api.Rules{Hand: octopus(), Measure: 4608}, 800, api.OK},
		{"ten times", fmt.Sprintf(". %s/6/7 - - -; . 4 %s %s -; . 4 - - -", eight, ten, ten), api.Rules{Hand: octopus(), Measure: 4608}, 1000, api.OK},
		{"ten times, and a longer one", fmt.Sprintf(". 1/%s/6/7 - - -; . 4 %s %s -; . 4 - - -", eight, ten, ten), api.Rules{Hand: octopus(), Measure: 4608}, 1100, api.ErrMany},
		{"ten times, and one that is too long", fmt.Sprintf(". 1/%s/6/7 - - -; . 4 %s %s -; . 4 - - -", eight, ten, ten), api.Rules{Hand: octopus(), Measure: 383}, 1000, api.OK},
		{"ten times, and a longer one, at the end", fmt.Sprintf(". 1/%s/6/7 - - -; . 4 %s %s -", eight, ten, ten), api.Rules{Hand: octopus(), Measure: 4608}, 11, api.OK},
		{"eleven times that do not matter", fmt.Sprintf(". 1/%s/6/7 - - -; . 4 %s %s -; . 4 - - -", eight, ten, ten), api.Rules{Hand: octopus()}, 100, api.OK},
		{"eleven times before a bar line", fmt.Sprintf(". 1/%s/6/7 - - -; | 4 %s %s -; . 4 - - -", eight, ten, ten), api.Rules{Hand: octopus(), Measure: 4608}, 100, api.OK},
		{"13 times 77 situations", ". 1/2/2t/3/3t/3./4/4t/4./5/5t/5./6 - - -; . 4 -/0/1/2/3/4/5 -/0/1/2/3/4/5/6/7/8/9 -; . 4 - - -", api.Rules{Hand: octopus(), Measure: 4608}, 1001, api.ErrMany},
		{"positions that differ", fmt.Sprintf(". 4 %s - -; . 4 %s - -; . 4 - - -", frets, frets), api.Rules{Hand: still}, 198, api.OK},
		{"positions that differ, at five times", fmt.Sprintf(". 3/3t/3./4/4t %s - -; . 4 %s - -; . 4 - - -", frets, frets), api.Rules{Hand: still, Measure: 4608}, 990, api.OK},
		{"open strings behind positions that differ, at 15 times", fmt.Sprintf(". 1/2/2t/3/3t/3./4/4t/4./5/5t/5./6/6t/6. %s - -; . 4 - -/0 -/0; . 4 - - -", frets), api.Rules{Hand: still, Measure: 4608}, 270, api.OK},
		{"positions that differ, at six times", fmt.Sprintf(". 2/3/3t/3./4/4t %s - -; . 4 %s - -; . 4 - - -", frets, frets), api.Rules{Hand: still, Measure: 4608}, 1188, api.ErrMany},
	} {
		k := problem{made(gut(3), c.columns), c.r}
		o := searched(k.f, k.r)
		if o.e != c.want || o.most != c.most {
			t.Errorf("%s: the model finds %v; it should find %d, with at most %d situations", c.name, o, c.want, c.most)
		}
		if at, e := faultOf(t, k); e != c.want || e == api.ErrNoReading && at != o.at {
			t.Errorf("%s: %d at %d; it should be %d", c.name, e, at, c.want)
		}
	}
}

// All limits, against the document, for leaves with more columns.
func TestLimitsAny(t *testing.T) {
	r := rand.New(rand.NewPCG(16, 17))
	found := map[api.Errno]int{}
	for range 300 {
		k := problem{anyLeaf(r, 2+r.IntN(9), 4), anyRules(r)}
		o := searched(k.f, k.r)
		at, e := faultOf(t, k)
		if e != o.e || e == api.ErrNoReading && at != o.at {
			t.Fatalf("the error of %v is %d at %d; it should be %v", k, e, at, o)
		}
		if e == api.OK {
			n, e := leaf.Count(k.f, k.r)
			wants(t, "Count of "+k.String(), n, e, o.count)
		}
		found[e]++
	}
	if found[api.OK] < 100 || found[api.ErrNoReading] < 100 {
		t.Errorf("the errors are %v", found)
	}
}
