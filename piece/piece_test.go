package piece_test

import (
	"math"
	"testing"

	"theorbo/api"
	"theorbo/instrument"
	"theorbo/piece"
)

// P2.3: what is valid, up to every end of a range.
func TestCheckValid(t *testing.T) {
	for i, p := range pieces(t) {
		if e := piece.Check(p); e != api.OK {
			t.Errorf("piece %d: %d: %s", i, e, shown(p))
		}
	}
	for _, p := range []api.Piece{
		made("4 %"), made("|4 1/0"), made("4 %", "- ~"), made("7t 1/8 6/8"), made("1. 1/0 2/0 3/0 4/0 5/0 6/0"),
		made("4 1/8r3g4"), made("4 1/1h1", "- ~"), made("4 1/1h1", "- 2/0"), made("4 1/1h1", "- 2/0", "- 1/3"),
		made("4 1/1h1", "- ~", "- %"), made("4 1/1", "- 1/1"), made("4 2/5h1 3/5h2", "- 1/0", "- 2/5"),
		made("4 1/0", "1t ~", "- ~"), made("4 1/1h15", "- ~", "- ~", "- ~", "- ~", "- ~", "- ~", "- ~", "- ~", "- ~", "- ~", "- ~", "- ~", "- ~", "- ~", "- ~", "- ~"),
	} {
		if e := piece.Check(p); e != api.OK {
			t.Errorf("%s: %d", shown(p), e)
		}
	}
	theorbo := api.Piece{Instrument: standard("theorbo14"), Events: eventsOf([]string{"4 1/8 7/0 14/0"})}
	if e := piece.Check(theorbo); e != api.OK {
		t.Errorf("theorbo14: %d", e)
	}
}

// P2.3: every error.
func TestCheckErrors(t *testing.T) {
	for name, b := range broken() {
		if e := piece.Check(b.p); e != b.e {
			t.Errorf("%s: %d, want %d", name, e, b.e)
		}
	}
	for _, c := range []struct {
		want   api.Errno
		events []string
	}{
		{api.ErrSign, []string{"- %"}},
		{api.ErrSign, []string{"8 %"}},
		{api.ErrSign, []string{"4t. %"}},
		{api.ErrSign, []string{"4 1/0", "9 1/0"}},
		{api.ErrSign, []string{"4 1/0", "7t. 1/0"}},
		{api.ErrTie, []string{"4 ~"}},
		{api.ErrTie, []string{"4 1/0 ~"}},
		{api.ErrTie, []string{"4 1/0", "- ~ 1/0"}},
		{api.ErrCourse, []string{"4 0/0"}},
		{api.ErrCourse, []string{"4 6/0 7/0"}},
		{api.ErrFret, []string{"4 6/9"}},
		{api.ErrOrder, []string{"4 1/0 1/0"}},
		{api.ErrOrder, []string{"4 1/0 3/0 2/0"}},
		{api.ErrMark, []string{"4 1/0r4"}},
		{api.ErrMark, []string{"4 1/0g5"}},
		{api.ErrHold, []string{"4 1/1h1"}},
		{api.ErrHold, []string{"4 1/0h1", "- ~"}},
		{api.ErrHold, []string{"4 1/1h1", "- %"}},
		{api.ErrHold, []string{"4 1/1h1", "- 1/0"}},
		{api.ErrHold, []string{"4 1/1h1", "- 1/1"}},
		{api.ErrHold, []string{"4 1/1h2", "- ~", "- 1/0 2/0"}},
		{api.ErrHold, []string{"4 1/1h2", "- 2/0", "- %"}},
		{api.ErrHold, []string{"4 1/1h16", "- ~", "- ~", "- ~", "- ~", "- ~", "- ~", "- ~", "- ~", "- ~", "- ~", "- ~", "- ~", "- ~", "- ~", "- ~", "- ~"}},
	} {
		if e := piece.Check(made(c.events...)); e != c.want {
			t.Errorf("Check(%q) = %d, want %d", c.events, e, c.want)
		}
	}
}

// P2.3: fields that the notation of events cannot write.
func TestCheckFields(t *testing.T) {
	for _, value := range hostile {
		ev := api.Event{Sign: api.Sign{Value: value}}
		want := api.ErrSign
		if value >= 0 && value <= 7 {
			want = api.OK
		}
		checkSecond(t, ev, want)
		for _, c := range []struct {
			st        api.Stop
			low, high int
			want      api.Errno
		}{
			{api.Stop{Course: value}, 1, 6, api.ErrCourse},
			{api.Stop{Course: 1, Fret: value}, 0, 8, api.ErrFret},
			{api.Stop{Course: 1, Right: value}, 0, 3, api.ErrMark},
			{api.Stop{Course: 1, Grace: value}, 0, 4, api.ErrMark},
			{api.Stop{Course: 1, Fret: 1, Hold: value}, 0, 2, api.ErrHold},
			{api.Stop{Course: 1, Fret: 0, Hold: value}, 0, 0, api.ErrHold},
		} {
			want := api.OK
			if value < c.low || value > c.high {
				want = c.want
			}
			checkSecond(t, api.Event{Stops: []api.Stop{c.st}}, want)
		}
	}
	for _, s := range []api.Sign{{Dot: true}, {Three: true}, {Dot: true, Three: true}} {
		checkSecond(t, api.Event{Sign: s}, api.ErrSign)
	}
	diapason := api.Piece{Instrument: standard("theorbo14"), Events: eventsOf([]string{"4 7/1"})}
	if e := piece.Check(diapason); e != api.ErrFret {
		t.Errorf("a fret of a diapason: %d", e)
	}
}

// checkSecond checks a piece with the event as its second one, which two ties follow.
func checkSecond(t *testing.T, ev api.Event, want api.Errno) {
	t.Helper()
	p := made("4 1/0", "- %", "- ~", "- ~")
	p.Events[1] = ev
	if e := piece.Check(p); e != want {
		t.Errorf("Check(%v) = %d, want %d", ev, e, want)
	}
}

// P2.3: of several errors the first one.
func TestCheckOrder(t *testing.T) {
	for _, c := range []struct {
		want   api.Errno
		events []string
	}{
		{api.ErrSign, []string{"- ~"}},
		{api.ErrSign, []string{"8 1/0 ~"}},
		{api.ErrSign, []string{"- 9/0"}},
		{api.ErrTie, []string{"4 ~ 7/9"}},
		{api.ErrTie, []string{"4 %", "- ~ 7/9"}},
		{api.ErrCourse, []string{"4 0/9r4h1"}},
		{api.ErrCourse, []string{"4 2/0 0/0"}},
		{api.ErrCourse, []string{"4 2/0 7/9r9"}},
		{api.ErrFret, []string{"4 2/0 1/9r4"}},
		{api.ErrFret, []string{"4 1/9h1"}},
		{api.ErrOrder, []string{"4 2/0 1/0r4"}},
		{api.ErrOrder, []string{"4 2/0 1/1h9"}},
		{api.ErrMark, []string{"4 1/0r4h1"}},
		{api.ErrMark, []string{"4 1/1g5h1"}},
		{api.ErrHold, []string{"4 1/1h1 0/0"}},
		{api.ErrMark, []string{"4 1/1r9 2/0 1/0"}},
		{api.ErrHold, []string{"4 1/1h1", "8 %"}},
		{api.ErrHold, []string{"4 1/1h1", "- 1/1 1/1"}},
		{api.ErrCourse, []string{"4 7/0", "- ~ 1/0"}},
		{api.ErrOrder, []string{"4 1/1h1 1/1", "- 2/0"}},
	} {
		if e := piece.Check(made(c.events...)); e != c.want {
			t.Errorf("Check(%q) = %d, want %d", c.events, e, c.want)
		}
	}
	p := broken()["many"].p
	p.Events[0].Sign = api.Sign{}
	if e := piece.Check(p); e != api.ErrMany {
		t.Errorf("many events, no sign: %d", e)
	}
	p.Instrument.Courses = nil
	if e := piece.Check(p); e != api.ErrInstrument {
		t.Errorf("many events, no instrument: %d", e)
	}
}

// P2.4: the definition, for all events and courses.
func TestLongest(t *testing.T) {
	for _, p := range pieces(t) {
		for event := -1; event <= len(p.Events); event++ {
			for course := -1; course <= 15; course++ {
				if h, want := piece.Longest(p, event, course), longest(p, event, course); h != want {
					t.Fatalf("Longest(%s, %d, %d) = %d, want %d", shown(p), event, course, h, want)
				}
			}
		}
	}
}

// P2.4: holds that are written out.
func TestLongestWritten(t *testing.T) {
	p := made("3 1/2h1", "4 ~", "- %", "- 1/0", "- 2/0", "- 3/0 2/1", "- 1/1", "- ~")
	for _, c := range []struct{ event, course, want int }{
		{0, 1, 1}, {0, 2, 1}, {1, 1, 0}, {2, 1, 0}, {2, 5, 5}, {3, 1, 2}, {3, 2, 0}, {3, 3, 1}, {3, 6, 4}, {4, 2, 0}, {6, 1, 1}, {7, 1, 0},
		{8, 1, 0}, {-1, 1, 0}, {3, 0, 4}, {3, 99, 4}, {math.MinInt, 1, 0}, {math.MaxInt, 1, 0}, {0, math.MinInt, 1}, {0, math.MaxInt, 1},
	} {
		if h := piece.Longest(p, c.event, c.course); h != c.want {
			t.Errorf("Longest(%d, %d) = %d, want %d", c.event, c.course, h, c.want)
		}
	}
}

// P2.4: a piece that is not valid is looked at as it stands.
func TestLongestOfBroken(t *testing.T) {
	p := made("- ~", "- ~ 2/0 1/0", "8 99/99 99/99", "- %")
	p.Instrument = api.Instrument{}
	for _, c := range []struct{ event, course, want int }{{0, 1, 0}, {0, 2, 0}, {0, 99, 1}, {0, 3, 2}, {1, 1, 1}, {1, 99, 0}, {2, 1, 0}} {
		if h := piece.Longest(p, c.event, c.course); h != c.want {
			t.Errorf("Longest(%d, %d) = %d, want %d", c.event, c.course, h, c.want)
		}
	}
	if h := piece.Longest(broken()["many"].p, 0, 2); h != 15 {
		t.Errorf("Longest in 401 events: %d", h)
	}
	if h := piece.Longest(api.Piece{}, 0, 1); h != 0 {
		t.Errorf("Longest without events: %d", h)
	}
}

// P2.14: Same compares every field.
func TestSame(t *testing.T) {
	base := made("4 1/2r1g2 3/0", "|- ~", "5. 2/0")
	for i, p := range pieces(t) {
		if !piece.Same(p, copied(p)) || !piece.Same(roomy(p), p) {
			t.Fatalf("piece %d is not the same as its copy: %s", i, shown(p))
		}
	}
	for name, c := range changes() {
		p := copied(base)
		c.change(&p)
		if piece.Same(base, p) || piece.Same(p, base) {
			t.Errorf("%s: the same", name)
		}
		if !piece.Same(p, copied(p)) {
			t.Errorf("%s: not the same as its copy", name)
		}
	}
	for name, b := range broken() {
		if !piece.Same(b.p, copied(b.p)) {
			t.Errorf("%s: not the same as its copy", name)
		}
	}
	empty := api.Piece{Instrument: api.Instrument{Courses: []api.Course{}, Steps: []int{}}, Events: []api.Event{}}
	if !piece.Same(empty, api.Piece{}) || !piece.Same(api.Piece{}, empty) {
		t.Error("nil and empty lists differ")
	}
	rest, other := made("4 %"), made("4 %")
	rest.Events[0].Stops, other.Events[0].Stops = []api.Stop{}, nil
	if !piece.Same(rest, other) {
		t.Error("nil and empty stops differ")
	}
}

// changes change a piece of three events, and tell whether it stays alike.
func changes() map[string]struct {
	change func(*api.Piece)
	alike  bool
} {
	type row = struct {
		change func(*api.Piece)
		alike  bool
	}
	return map[string]row{
		"tuning":      {func(p *api.Piece) { p.Instrument.Courses[5].Pitch-- }, false},
		"octave":      {func(p *api.Piece) { p.Instrument.Courses[0].Octave = true }, false},
		"frets":       {func(p *api.Piece) { p.Instrument.Courses[0].Frets-- }, false},
		"steps":       {func(p *api.Piece) { p.Instrument.Steps[7]++ }, false},
		"bar added":   {func(p *api.Piece) { p.Events[0].Bar = true }, true},
		"bar removed": {func(p *api.Piece) { p.Events[1].Bar = false }, true},
		"value":       {func(p *api.Piece) { p.Events[0].Sign.Value = 3 }, false},
		"dot":         {func(p *api.Piece) { p.Events[2].Sign.Dot = false }, false},
		"triplet":     {func(p *api.Piece) { p.Events[0].Sign.Three = true }, false},
		"written":     {func(p *api.Piece) { p.Events[1].Sign = p.Events[0].Sign }, true},
		"times": {func(p *api.Piece) {
			p.Events[0].Sign, p.Events[2].Sign = p.Events[2].Sign, p.Events[0].Sign
		}, false},
		"tie":       {func(p *api.Piece) { p.Events[1].Tie = false }, false},
		"tie added": {func(p *api.Piece) { p.Events[2].Tie = true; p.Events[2].Stops = nil }, false},
		"fret":      {func(p *api.Piece) { p.Events[2].Stops[0].Fret = 1 }, false},
		"course":    {func(p *api.Piece) { p.Events[2].Stops[0].Course = 3 }, false},
		"right":     {func(p *api.Piece) { p.Events[2].Stops[0].Right = 1 }, true},
		"grace":     {func(p *api.Piece) { p.Events[0].Stops[0].Grace = 0 }, true},
		"hold":      {func(p *api.Piece) { p.Events[0].Stops[0].Hold = 2 }, true},
		"stop less": {func(p *api.Piece) { p.Events[0].Stops = p.Events[0].Stops[:1] }, false},
		"stop more": {func(p *api.Piece) { p.Events[2].Stops = append(p.Events[2].Stops, api.Stop{Course: 6}) }, false},
		"no stops":  {func(p *api.Piece) { p.Events[2].Stops = nil }, false},
		"less":      {func(p *api.Piece) { p.Events = p.Events[:2] }, false},
		"more":      {func(p *api.Piece) { p.Events = append(p.Events, api.Event{}) }, false},
	}
}

// P2.14: Alike compares what is played, and valid pieces alone.
func TestAlike(t *testing.T) {
	base := made("4 1/2r1g2 3/0", "|- ~", "5. 2/0")
	for name, c := range changes() {
		p := copied(base)
		c.change(&p)
		if e := piece.Check(p); e != api.OK {
			t.Fatalf("%s: %d", name, e)
		}
		if piece.Alike(base, p) != c.alike || piece.Alike(p, base) != c.alike {
			t.Errorf("%s: alike is %v", name, !c.alike)
		}
	}
	for _, p := range pieces(t) {
		if !piece.Alike(p, copied(p)) {
			t.Fatalf("not alike its copy: %s", shown(p))
		}
	}
	for name, b := range broken() {
		if piece.Alike(b.p, b.p) || piece.Alike(base, b.p) || piece.Alike(b.p, base) {
			t.Errorf("%s is alike", name)
		}
	}
	good, bad := made("4 1/2", "- ~"), made("4 1/2r4", "- ~")
	if piece.Alike(good, bad) || piece.Alike(bad, good) {
		t.Error("a piece that is not valid is alike")
	}
}

// P2.14: pieces whose times or whose instruments alone differ.
func TestAlikeTimes(t *testing.T) {
	for _, c := range []struct {
		a, b  []string
		alike bool
	}{
		{[]string{"4 1/0", "- 2/0"}, []string{"4 1/0", "4 2/0"}, true},
		{[]string{"4 1/0", "- 2/0"}, []string{"4 1/0", "5 2/0"}, false},
		{[]string{"4 1/0", "5 2/0"}, []string{"5 1/0", "4 2/0"}, false},
		{[]string{"4 1/0", "- %"}, []string{"4 1/0", "- ~"}, false},
		{[]string{"3 1/0"}, []string{"4 1/0", "- ~"}, false},
		{[]string{"4 1/0 2/0"}, []string{"4 1/0", "- 2/0"}, false},
		{[]string{}, []string{}, true},
		{[]string{}, []string{"4 %"}, false},
	} {
		a, b := made(c.a...), made(c.b...)
		if piece.Alike(a, b) != c.alike || piece.Alike(b, a) != c.alike {
			t.Errorf("Alike(%q, %q) = %v", c.a, c.b, !c.alike)
		}
	}
	a, b := made("4 6/0"), made("4 6/0")
	b.Instrument, _ = instrument.Tune(b.Instrument, 1, 1)
	if piece.Alike(a, b) {
		t.Error("alike on two instruments")
	}
}
