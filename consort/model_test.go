package consort_test

import (
	"cmp"
	"fmt"
	"math/rand/v2"
	"slices"
	"strings"
	"testing"

	"theorbo/api"
	"theorbo/consort"
)

// heard is a note of a desk: its voice, its times, and when it began by the clock.
type heard struct {
	api.Voice
	from, to, began int
}

// model is a player as the document describes it, without a thought of how long it takes.
type model struct {
	notes           []heard // of all desks
	end, now, clock int
	waiting         bool
	silent          []bool
	since           []int
	from, to, times int
	sounding        []heard
	takes           []api.Take
}

func newModel(c api.Consort) *model {
	m := &model{waiting: true, silent: make([]bool, len(c.Pieces)), since: make([]int, len(c.Pieces)), end: lengthOf(c.Pieces[0])}
	for desk, p := range c.Pieces {
		for _, n := range notesOf(p) {
			m.notes = append(m.notes, heard{api.Voice{Desk: desk, Course: n.Course, Pitch: n.Pitch}, n.From, n.To, 0})
		}
	}
	return m
}

// could reports whether a note could begin.
func (m *model) could(n heard) bool {
	return !m.silent[n.Desk] && n.from >= m.since[n.Desk]
}

// next returns the next time, or -1.
func (m *model) next() int {
	if m.waiting {
		return m.now
	}
	for t := m.now + 1; t <= m.end; t++ {
		ends := func(n heard) bool { return n.to == t }
		begins := func(n heard) bool { return n.from == t && m.could(n) }
		if t == m.end || m.times > 0 && t == m.to || slices.ContainsFunc(m.sounding, ends) || slices.ContainsFunc(m.notes, begins) {
			return t
		}
	}
	return -1
}

func inOrder(l []heard) []api.Voice {
	var voices []api.Voice
	for _, n := range l {
		voices = append(voices, n.Voice)
	}
	slices.SortFunc(voices, func(a, b api.Voice) int { return cmp.Or(a.Desk-b.Desk, a.Course-b.Course) })
	return voices
}

// finish ends notes.
func (m *model) finish(ends func(n heard) bool) []api.Voice {
	var ended, left []heard
	for _, n := range m.sounding {
		if ends(n) {
			ended = append(ended, n)
		} else {
			left = append(left, n)
		}
	}
	m.sounding = left
	voices := inOrder(ended)
	for _, v := range voices {
		i := slices.IndexFunc(ended, func(n heard) bool { return n.Voice == v })
		m.takes = append(m.takes, api.Take{Desk: v.Desk, Course: v.Course, Pitch: v.Pitch, From: ended[i].began, To: m.clock})
	}
	return voices
}

// leap ends all notes and goes to a time.
func (m *model) leap(t int) []api.Voice {
	ended := m.finish(func(heard) bool { return true })
	m.now = t
	for i := range m.since {
		m.since[i] = t
	}
	return ended
}

func (m *model) step() (api.Frame, api.Errno) {
	next := m.next()
	if next < 0 {
		return api.Frame{}, api.ErrEnd
	}
	var f api.Frame
	if m.waiting {
		m.waiting = false
	} else {
		m.clock += next - m.now
		if m.times > 0 && next == m.to {
			m.times--
			f.End = m.leap(m.from)
		} else {
			m.now = next
			f.End = m.finish(func(n heard) bool { return n.to == next })
		}
	}
	f.Time = m.now
	var begun []heard
	for _, n := range m.notes {
		if n.from == m.now && m.could(n) {
			n.began = m.clock
			begun = append(begun, n)
		}
	}
	m.sounding = append(m.sounding, begun...)
	f.Begin = inOrder(begun)
	return f, api.OK
}

func (m *model) seek(t int) (api.Frame, api.Errno) {
	if t < 0 || t > m.end {
		return api.Frame{}, api.ErrArg
	}
	ended := m.leap(t)
	m.waiting = true
	return api.Frame{Time: t, End: ended}, api.OK
}

func (m *model) repeat(from, to, times int) api.Errno {
	if !(0 <= from && from < to && to <= m.end && 0 <= times && times <= 100) {
		return api.ErrArg
	}
	m.from, m.to, m.times = from, to, times
	return api.OK
}

func (m *model) mute(desk int, silent bool) (api.Frame, api.Errno) {
	if desk < 0 || desk >= len(m.silent) {
		return api.Frame{}, api.ErrArg
	}
	f := api.Frame{Time: m.now}
	if m.silent[desk] == silent {
		return f, api.OK
	}
	m.silent[desk] = silent
	if silent {
		f.End = m.finish(func(n heard) bool { return n.Desk == desk })
		return f, api.OK
	}
	m.since[desk] = m.now
	if !m.waiting {
		m.since[desk]++
	}
	return f, api.OK
}

func (m *model) copied() *model {
	c := *m
	c.silent, c.since = slices.Clone(m.silent), slices.Clone(m.since)
	c.sounding, c.takes = slices.Clone(m.sounding), slices.Clone(m.takes)
	return &c
}

// state is what the methods of a player that change nothing return.
func state(p *consort.Player) string {
	next, e := p.Next()
	return fmt.Sprint(p.Now(), p.Clock(), next, e, p.Done(), p.Sounding(), p.Takes())
}

func (m *model) state() string {
	next, e := m.next(), api.OK
	if next < 0 {
		next, e = 0, api.ErrEnd
	}
	return fmt.Sprint(m.now, m.clock, next, e, e != api.OK, inOrder(m.sounding), m.takes)
}

// deed is an order to a player.
type deed struct {
	name    string
	a, b, c int
}

// anyDeed returns an order, which may be refused.
func anyDeed(r *rand.Rand, end, desks int) deed {
	time := func() int {
		if r.IntN(10) == 0 {
			return hostile[r.IntN(len(hostile))]
		}
		return r.IntN(end/12+1)*12 + r.IntN(20)/19*(r.IntN(5)-2)
	}
	switch r.IntN(20) {
	case 0:
		return deed{"seek", time(), 0, 0}
	case 1:
		a, b, times := time(), time(), r.IntN(4)
		if r.IntN(30) == 0 {
			times = hostile[r.IntN(len(hostile))]
		}
		return deed{"repeat", min(a, b), max(a, b), times}
	case 2, 3:
		desk := r.IntN(desks)
		if r.IntN(30) == 0 {
			desk = hostile[r.IntN(len(hostile))]
		}
		return deed{"mute", desk, r.IntN(2), 0}
	case 4:
		return deed{name: "copy"}
	}
	return deed{name: "step"}
}

// done gives an order to a player and to a model of it, and returns what they answer.
func (d deed) done(p *consort.Player, m *model) (got, want string) {
	answer := func(f api.Frame, e api.Errno) string { return fmt.Sprint(f, e) }
	switch d.name {
	case "step":
		return answer(p.Step()), answer(m.step())
	case "seek":
		return answer(p.Seek(d.a)), answer(m.seek(d.a))
	case "repeat":
		return fmt.Sprint(p.Repeat(d.a, d.b, d.c)), fmt.Sprint(m.repeat(d.a, d.b, d.c))
	case "mute":
		return answer(p.Mute(d.a, d.b == 0)), answer(m.mute(d.a, d.b == 0))
	}
	return "", ""
}

// frame gives an order to a player and returns its frame, if there is one.
func (d deed) frame(p *consort.Player) (f api.Frame) {
	switch d.name {
	case "step":
		f, _ = p.Step()
	case "seek":
		f, _ = p.Seek(d.a)
	case "repeat":
		p.Repeat(d.a, d.b, d.c)
	case "mute":
		f, _ = p.Mute(d.a, d.b == 0)
	}
	return f
}

// P9.4: after any calls all methods return what the document says; copies go on by themselves.
func TestAnyCalls(t *testing.T) {
	r := rand.New(rand.NewPCG(16, 17))
	answers := map[string]int{}
	for _, c := range consorts(18, 150) {
		players, models := []*consort.Player{player(c)}, []*model{newModel(c)}
		var deeds []deed
		for range 150 {
			which := r.IntN(len(players))
			p, m := players[which], models[which]
			d := anyDeed(r, m.end, len(m.silent))
			deeds = append(deeds, d)
			if d.name == "copy" && len(players) < 4 {
				players, models = append(players, p.Copy()), append(models, m.copied())
			}
			if got, want := d.done(p, m); got != want {
				t.Fatalf("%v behind %v of %v: %s; it should be %s", d, deeds, c, got, want)
			} else if d.name != "copy" && !strings.HasSuffix(got, "0") {
				answers[d.name+" refused"]++
			}
			answers[d.name]++
			if got, want := state(p), m.state(); got != want {
				t.Fatalf("behind %v of %v: %s; it should be %s", deeds, c, got, want)
			}
		}
		for i, p := range players {
			if got, want := state(p), models[i].state(); got != want {
				t.Fatalf("the player %d behind %v of %v: %s; it should be %s", i, deeds, c, got, want)
			}
		}
	}
	for _, name := range []string{"step", "seek", "repeat", "mute", "copy", "step refused", "seek refused", "repeat refused", "mute refused"} {
		if answers[name] < 20 {
			t.Errorf("only %d times %s", answers[name], name)
		}
	}
}
