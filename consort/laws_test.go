package consort_test

import (
	"cmp"
	"fmt"
	"math/rand/v2"
	"slices"
	"testing"

	"theorbo/api"
	"theorbo/consort"
)

// performed returns the takes of a performance that begins at a time: the notes of all desks, in the order in which they end.
func performed(c api.Consort, at int) []api.Take {
	var takes []api.Take
	for desk, p := range c.Pieces {
		for _, n := range notesOf(p) {
			takes = append(takes, api.Take{Desk: desk, Course: n.Course, Pitch: n.Pitch, From: at + n.From, To: at + n.To})
		}
	}
	slices.SortFunc(takes, func(a, b api.Take) int { return cmp.Or(a.To-b.To, a.Desk-b.Desk, a.Course-b.Course) })
	return takes
}

// P9.6: a player that only steps plays all notes with their times.
func TestPlayedToTheEnd(t *testing.T) {
	for _, c := range consorts(19, 200) {
		p, end := player(c), lengthOf(c.Pieces[0])
		frames := play(t, p)
		if got, want := p.Takes(), performed(c, 0); !slices.Equal(got, want) {
			t.Fatalf("the takes of %v are %v; they should be %v", c, got, want)
		}
		if p.Clock() != end || p.Now() != end || !p.Done() || len(p.Sounding()) > 0 {
			t.Fatalf("%v is played to %d, by the clock %d; %v sound", c, p.Now(), p.Clock(), p.Sounding())
		}
		if !slices.IsSortedFunc(frames, func(a, b api.Frame) int { return cmp.Or(a.Time-b.Time, -1) }) {
			t.Fatalf("the frames of %v are %v", c, frames)
		}
	}
}

// balance is what sounds by the frames so far.
type balance map[api.Voice]bool

// weigh takes note of a frame: what ends first, then what begins.
func (b balance) weigh(t *testing.T, f api.Frame) {
	t.Helper()
	for _, v := range f.End {
		if !b[v] {
			t.Fatalf("%v ends, but does not sound: %v", v, b)
		}
		delete(b, v)
	}
	for _, v := range f.Begin {
		for other := range b {
			if other.Desk == v.Desk && other.Course == v.Course {
				t.Fatalf("%v begins, but %v sounds", v, other)
			}
		}
		b[v] = true
	}
}

func compareVoices(a, b api.Voice) int {
	return cmp.Or(a.Desk-b.Desk, a.Course-b.Course)
}

// P9.7: what sounds is what began and did not end; all lists of voices are in order.
func TestBalance(t *testing.T) {
	r := rand.New(rand.NewPCG(20, 21))
	takes := 0
	for _, c := range consorts(22, 150) {
		p, b, ended := player(c), balance{}, 0
		for range 100 {
			d := anyDeed(r, lengthOf(c.Pieces[0]), len(c.Pieces))
			if d.name == "copy" {
				p = p.Copy()
			}
			f := d.frame(p)
			b.weigh(t, f)
			ended += len(f.End)
			var want []api.Voice
			for v := range b {
				want = append(want, v)
			}
			slices.SortFunc(want, compareVoices)
			if got := p.Sounding(); !slices.Equal(got, want) {
				t.Fatalf("%v sound behind %v; it should be %v", got, d, want)
			}
			if !slices.IsSortedFunc(f.Begin, compareVoices) || !slices.IsSortedFunc(f.End, compareVoices) {
				t.Fatalf("the frame %v is not in order", f)
			}
		}
		if got := len(p.Takes()); got != ended {
			t.Fatalf("%d takes of %d notes that have ended", got, ended)
		}
		takes += ended
	}
	if takes < 1000 {
		t.Errorf("only %d notes end", takes)
	}
}

// P9.8: a repeat that is set at first.
func TestRepeated(t *testing.T) {
	r := rand.New(rand.NewPCG(23, 24))
	for _, c := range consorts(25, 150) {
		end := lengthOf(c.Pieces[0])
		if end == 0 {
			continue
		}
		from := r.IntN(end)
		to, times := from+1+r.IntN(end-from), r.IntN(5)
		p := player(c)
		if e := p.Repeat(from, to, times); e != api.OK {
			t.Fatalf("Repeat: %d", e)
		}
		begun := map[api.Take]int{}
		for _, f := range play(t, p) {
			for _, v := range f.Begin {
				begun[api.Take{Desk: v.Desk, Course: v.Course, Pitch: v.Pitch, From: f.Time}]++
			}
		}
		for _, take := range performed(c, 0) {
			want := 1
			if from <= take.From && take.From < to {
				want += times
			}
			if take.To = 0; begun[take] != want {
				t.Fatalf("%v of %v with the repeat %d %d %d begins %d times", take, c, from, to, times, begun[take])
			}
		}
		if p.Clock() != end+times*(to-from) || len(p.Sounding()) > 0 {
			t.Fatalf("%v with the repeat %d %d %d is played to the clock %d", c, from, to, times, p.Clock())
		}
		if p = player(c); p.Repeat(0, end, times) != api.OK {
			t.Fatal("no repeat")
		}
		play(t, p)
		var want []api.Take
		for n := range times + 1 {
			want = append(want, performed(c, n*end)...)
		}
		if got := p.Takes(); !slices.Equal(got, want) {
			t.Fatalf("the takes of %v, played %d times more, are %v; they should be %v", c, times, got, want)
		}
	}
}

// P9.9: a desk that is silent from the beginning on has no takes, and the others play as without it.
func TestSilentDesks(t *testing.T) {
	r := rand.New(rand.NewPCG(26, 27))
	silent := 0
	for _, c := range consorts(28, 150) {
		p := player(c)
		var others api.Consort
		var numbers []int
		for desk, own := range c.Pieces {
			if r.IntN(3) == 0 {
				p.Mute(desk, true)
				silent++
				continue
			}
			others.Pieces, numbers = append(others.Pieces, own), append(numbers, desk)
		}
		play(t, p)
		var want []api.Take
		if len(numbers) > 0 {
			q := player(others)
			play(t, q)
			want = q.Takes()
		}
		for i := range want {
			want[i].Desk = numbers[want[i].Desk]
		}
		if got := p.Takes(); !slices.Equal(got, want) {
			t.Fatalf("the takes of %v are %v; they should be %v", c, got, want)
		}
	}
	if silent < 100 {
		t.Errorf("only %d desks are silent", silent)
	}
}

// P9.10: after Seek a player goes on as a new one does.
func TestSought(t *testing.T) {
	r := rand.New(rand.NewPCG(29, 30))
	for _, c := range consorts(31, 150) {
		p, q := player(c), player(c)
		for range r.IntN(20) {
			switch r.IntN(10) {
			case 0:
				p.Seek(r.IntN(lengthOf(c.Pieces[0]) + 1))
			case 1:
				desk := r.IntN(len(c.Pieces))
				p.Mute(desk, true)
				p.Mute(desk, false)
			default:
				p.Step()
			}
		}
		at := r.IntN(lengthOf(c.Pieces[0]) + 1)
		if r.IntN(2) == 0 {
			at -= at % 12
		}
		_, e := p.Seek(at)
		f, g := q.Seek(at)
		if e != api.OK || g != api.OK || fmt.Sprint(f) != fmt.Sprint(api.Frame{Time: at}) {
			t.Fatalf("Seek %d of %v: %d; of a new player %v, %d", at, c, e, f, g)
		}
		if got, want := fmt.Sprint(play(t, p)), fmt.Sprint(play(t, q)); got != want {
			t.Fatalf("the frames of %v from %d on are %s; they should be %s", c, at, got, want)
		}
	}
}

// P9.4: what becomes of a consort later does not matter to its player.
func TestConsortForgotten(t *testing.T) {
	c := example()
	p := player(c)
	for _, own := range c.Pieces {
		own.Instrument.Courses[0].Pitch = 0
		own.Events[0].Stops[0] = api.Stop{Course: 2}
		own.Events[0] = api.Event{}
	}
	c.Pieces[0] = api.Piece{}
	if got, want := fmt.Sprint(play(t, p)), fmt.Sprint(play(t, player(example()))); got != want {
		t.Errorf("a player of a consort that is gone plays %s; it should be %s", got, want)
	}
	if _, e := consort.New(c); e != api.ErrInstrument {
		t.Errorf("New of a consort that is gone: %d", e)
	}
}
