package consort

import (
	"cmp"
	"slices"

	"theorbo/api"
	"theorbo/ints"
	"theorbo/lists"
	"theorbo/sound"
)

// Player plays a consort step by step.
type Player struct {
	clock
	end      int
	now      int
	waiting  bool // to play what begins now
	desks    []deskState
	repeat   repeat
	sounding lists.Shelf[note]
	takes    []api.Take
}

// clock counts the ticks that have been played.
type clock struct {
	ticks int
}

func (c *clock) advance(by int) {
	c.ticks += by
}

// deskState is what a player knows of a desk. The time since which its notes count need not be kept: it is never later than now, or than the tick behind it once what begins now has begun, so that it holds back no note that is still to come.
type deskState struct {
	notes  []api.Note // in order of From; they never change, so that copies of a player share them
	silent bool
}

// repeat goes back to from as often as times are left.
type repeat struct {
	from, to, times int
}

// note is one that sounds: its voice, the time at which it is to end, and when it began by the clock.
type note struct {
	api.Voice
	to, began int
}

func (n note) compare(other note) int {
	return cmp.Or(cmp.Compare(n.Desk, other.Desk), cmp.Compare(n.Course, other.Course))
}

// New returns a player of a consort.
func New(c api.Consort) (*Player, api.Errno) {
	end, e := endOf(c)
	if e != api.OK {
		return nil, e
	}
	desks := lists.Changed(c.Pieces, func(p api.Piece) deskState {
		notes, _ := sound.Notes(p)
		return deskState{notes: notes}
	})
	return &Player{end: end, waiting: true, desks: desks, sounding: lists.NewShelf(note.compare)}, api.OK
}

// coming returns the notes that could begin at a time or later.
func (d deskState) coming(t int) []api.Note {
	if d.silent {
		return nil
	}
	first, _ := slices.BinarySearchFunc(d.notes, t, func(n api.Note, t int) int { return cmp.Compare(n.From, t) })
	return d.notes[first:]
}

// Now returns the time of the player.
func (p *Player) Now() int {
	if p == nil {
		return 0
	}
	return p.now
}

// Clock returns how many ticks the player has played.
func (p *Player) Clock() int {
	if p == nil {
		return 0
	}
	return p.ticks
}

// Sounding returns the voices that sound.
func (p *Player) Sounding() []api.Voice {
	if p == nil {
		return nil
	}
	return voicesOf(p.sounding.Items())
}

func voicesOf(l []note) []api.Voice {
	return lists.Changed(l, func(n note) api.Voice { return n.Voice })
}

// Takes returns the notes that have ended.
func (p *Player) Takes() []api.Take {
	if p == nil {
		return nil
	}
	return slices.Clone(p.takes)
}

// Done reports whether there is no next time.
func (p *Player) Done() bool {
	_, e := p.Next()
	return e == api.ErrEnd
}

// Next returns the next time.
func (p *Player) Next() (int, api.Errno) {
	switch {
	case p == nil:
		return 0, api.ErrNil
	case p.waiting:
		return p.now, api.OK
	case p.now == p.end:
		return 0, api.ErrEnd
	}
	next := p.end
	if p.repeat.times > 0 && p.repeat.to > p.now {
		next = min(next, p.repeat.to)
	}
	for _, n := range p.sounding.Items() {
		next = min(next, n.to)
	}
	for _, d := range p.desks {
		if notes := d.coming(p.now + 1); len(notes) > 0 {
			next = min(next, notes[0].From)
		}
	}
	return next, api.OK
}

// Step goes to the next time.
func (p *Player) Step() (api.Frame, api.Errno) {
	next, e := p.Next()
	if e != api.OK {
		return api.Frame{}, e
	}
	p.advance(next - p.now)
	var ended []api.Voice
	switch {
	case p.waiting:
		p.waiting = false
	case p.repeat.times > 0 && p.repeat.to == next:
		p.repeat.times--
		p.now = p.repeat.from
		ended = p.stop(all)
	default:
		p.now = next
		ended = p.stop(func(n note) bool { return n.to == next })
	}
	return api.Frame{Time: p.now, Begin: p.begin(), End: ended}, api.OK
}

// begin lets the notes begin that can begin now, and returns their voices.
func (p *Player) begin() []api.Voice {
	var voices []api.Voice
	for number, d := range p.desks {
		for _, n := range d.coming(p.now) {
			if n.From > p.now {
				break
			}
			v := api.Voice{Desk: number, Course: n.Course, Pitch: n.Pitch}
			p.sounding.Put(note{Voice: v, to: n.To, began: p.ticks})
			voices = append(voices, v)
		}
	}
	return voices
}

// stop ends the notes of which ends is true, and returns their voices.
func (p *Player) stop(ends func(note) bool) []api.Voice {
	ended := p.sounding.Take(ends)
	for _, n := range ended {
		p.takes = append(p.takes, api.Take{Desk: n.Desk, Course: n.Course, Pitch: n.Pitch, From: n.began, To: p.ticks})
	}
	return voicesOf(ended)
}

// all is true of each note.
func all(note) bool {
	return true
}

// Seek goes to a time and waits there.
func (p *Player) Seek(t int) (api.Frame, api.Errno) {
	if p == nil {
		return api.Frame{}, api.ErrNil
	}
	if !ints.Within(t, 0, p.end) {
		return api.Frame{}, api.ErrArg
	}
	p.now, p.waiting = t, true
	return api.Frame{Time: t, End: p.stop(all)}, api.OK
}

// Repeat sets the repeat.
func (p *Player) Repeat(from, to, times int) api.Errno {
	if p == nil {
		return api.ErrNil
	}
	if from < 0 || from >= to || to > p.end || !ints.Within(times, 0, api.MaxTimes) {
		return api.ErrArg
	}
	p.repeat = repeat{from, to, times}
	return api.OK
}

// Mute makes a desk silent, or lets it play again.
func (p *Player) Mute(desk int, silent bool) (api.Frame, api.Errno) {
	if p == nil {
		return api.Frame{}, api.ErrNil
	}
	if !ints.Within(desk, 0, len(p.desks)-1) {
		return api.Frame{}, api.ErrArg
	}
	p.desks[desk].silent = silent
	frame := api.Frame{Time: p.now}
	if silent {
		frame.End = p.stop(func(n note) bool { return n.Desk == desk })
	}
	return frame, api.OK
}

// Copy returns an independent player in the same state.
func (p *Player) Copy() *Player {
	if p == nil {
		return nil
	}
	q := *p
	q.desks = slices.Clone(p.desks)
	q.sounding = p.sounding.Copy()
	q.takes = slices.Clone(p.takes)
	return &q
}
