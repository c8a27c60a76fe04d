package consort_test

import (
	"fmt"
	"strings"
	"testing"

	"theorbo/api"
	"theorbo/consort"
)

// play steps to the end and returns the frames.
func play(t *testing.T, p *consort.Player) []api.Frame {
	t.Helper()
	var frames []api.Frame
	for range 1_000_000 {
		f, e := p.Step()
		if e == api.ErrEnd {
			return frames
		}
		if e != api.OK {
			t.Fatalf("Step: %d", e)
		}
		frames = append(frames, f)
	}
	t.Fatal("a player does not come to the end")
	return nil
}

// said is what a player answers to an order: `step`, `seek 96`, `repeat 0 96 2`, `mute 0`, `unmute 0`; or its answers to the questions `now`, `clock`, `next`, `done`, `sounding` and `takes`.
func said(p *consort.Player, order string) string {
	word, rest, _ := strings.Cut(order, " ")
	var a, b, c int
	fmt.Sscan(rest, &a, &b, &c)
	frame := func(f api.Frame, e api.Errno) string {
		if e != api.OK {
			return fmt.Sprint("error ", e, map[bool]string{true: " with a frame"}[fmt.Sprint(f) != fmt.Sprint(api.Frame{})])
		}
		return fmt.Sprint(f.Time, " ", f.Begin, " ", f.End)
	}
	switch word {
	case "step":
		return frame(p.Step())
	case "seek":
		return frame(p.Seek(a))
	case "repeat":
		return fmt.Sprint(p.Repeat(a, b, c))
	case "mute":
		return frame(p.Mute(a, true))
	case "unmute":
		return frame(p.Mute(a, false))
	case "now":
		return fmt.Sprint(p.Now())
	case "clock":
		return fmt.Sprint(p.Clock())
	case "next":
		t, e := p.Next()
		if e != api.OK {
			return fmt.Sprint("error ", e, map[bool]string{true: " with a time"}[t != 0])
		}
		return fmt.Sprint(t)
	case "done":
		return fmt.Sprint(p.Done())
	case "sounding":
		return fmt.Sprint(p.Sounding())
	case "takes":
		return fmt.Sprint(p.Takes())
	}
	panic(order)
}

// follows gives orders to a player and compares what it says. Each line of the script has an order, a colon and the right answer.
func follows(t *testing.T, p *consort.Player, script string) {
	t.Helper()
	for line := range strings.SplitSeq(strings.TrimSpace(script), "\n") {
		order, want, _ := strings.Cut(strings.TrimSpace(line), ": ")
		if got := said(p, order); got != want {
			t.Errorf("%s: %s; it should be %s", order, got, want)
		}
	}
}

// P9.4: the examples of the document.
func TestPlayerExamples(t *testing.T) {
	follows(t, player(example()), `
		now: 0
		clock: 0
		sounding: []
		next: 0
		step: 0 [{0 1 67} {1 6 43}] []
		next: 96
		step: 96 [{0 1 69}] [{0 1 67}]
		step: 192 [] [{0 1 69} {1 6 43}]
		step: error 92
		clock: 192
		takes: [{0 1 67 0 96} {0 1 69 96 192} {1 6 43 0 192}]`)
	follows(t, player(example()), `
		repeat 96 192 1: 0
		step: 0 [{0 1 67} {1 6 43}] []
		step: 96 [{0 1 69}] [{0 1 67}]
		step: 96 [{0 1 69}] [{0 1 69} {1 6 43}]
		sounding: [{0 1 69}]
		clock: 192
		step: 192 [] [{0 1 69}]
		done: true
		seek 0: 0 [] []
		mute 0: 0 [] []
		step: 0 [{1 6 43}] []
		sounding: [{1 6 43}]
		unmute 0: 0 [] []
		next: 96
		step: 96 [{0 1 69}] []
		seek 193: error 1
		repeat 96 96 1: 1
		mute 2: error 1`)
}

// P9.4: at first, and a consort that has nothing to play.
func TestPlayerOfNothing(t *testing.T) {
	follows(t, player(reads(pair, "/")), `
		done: false
		now: 0
		next: 0
		repeat 0 0 0: 1
		repeat 0 1 0: 1
		step: 0 [] []
		done: true
		next: error 92
		step: error 92
		seek 1: error 1
		seek 0: 0 [] []
		done: false
		next: 0
		step: 0 [] []
		step: error 92
		takes: []
		sounding: []
		clock: 0`)
	follows(t, player(reads(pair, "M %; - %")), `
		step: 0 [] []
		next: 192
		step: 192 [] []
		done: true
		clock: 192`)
}

// P9.4: the next time is one at which a note begins or ends, of whatever desk; not that of any event.
func TestNext(t *testing.T) {
	follows(t, player(reads(pair, "C a b; - %; - ~; - - a / Q %; C c -; - d -; - %; Q %")), `
		step: 0 [{0 1 60} {0 2 56}] []
		next: 24
		step: 24 [{1 1 62}] []
		next: 48
		step: 48 [] [{0 1 60} {0 2 56}]
		step: 72 [{1 1 63}] [{1 1 62}]
		next: 120
		step: 120 [] [{1 1 63}]
		next: 144
		step: 144 [{0 2 55}] []
		step: 192 [] [{0 2 55}]
		done: true
		takes: [{0 1 60 0 48} {0 2 56 0 48} {1 1 62 24 72} {1 1 63 72 120} {0 2 55 144 192}]`)
}

// duet has the notes 60 and 56 from 0 to 96, and 62 from 96 to 192; and 55 from 0 to 96, 60 from 48 to 96.
func duet() api.Consort {
	return reads(pair, "M a b; M c - / C - a; C a -; M %")
}

// P9.4: Mute.
func TestMute(t *testing.T) {
	follows(t, player(duet()), `
		step: 0 [{0 1 60} {0 2 56} {1 2 55}] []
		mute 0: 0 [] [{0 1 60} {0 2 56}]
		takes: [{0 1 60 0 0} {0 2 56 0 0}]
		sounding: [{1 2 55}]
		mute 0: 0 [] []
		next: 48
		step: 48 [{1 1 60}] []
		unmute 0: 48 [] []
		unmute 0: 48 [] []
		next: 96
		step: 96 [{0 1 62}] [{1 1 60} {1 2 55}]
		mute 0: 96 [] [{0 1 62}]
		unmute 0: 96 [] []
		next: 192
		step: 192 [] []
		mute 1: 192 [] []
		takes: [{0 1 60 0 0} {0 2 56 0 0} {1 1 60 48 96} {1 2 55 0 96} {0 1 62 96 96}]`)
	// A desk that is not silent any more plays what begins later; if the player waits, also what begins now.
	follows(t, player(duet()), `
		mute 0: 0 [] []
		unmute 0: 0 [] []
		mute 1: 0 [] []
		step: 0 [{0 1 60} {0 2 56}] []
		next: 96
		mute 0: 0 [] [{0 1 60} {0 2 56}]
		next: 192
		seek 96: 96 [] []
		unmute 0: 96 [] []
		step: 96 [{0 1 62}] []
		mute 0: 96 [] [{0 1 62}]
		unmute 0: 96 [] []
		next: 192
		seek 96: 96 [] []
		step: 96 [{0 1 62}] []
		unmute 1: 96 [] []
		seek 0: 0 [] [{0 1 62}]
		step: 0 [{0 1 60} {0 2 56} {1 2 55}] []
		mute 0: 0 [] [{0 1 60} {0 2 56}]
		unmute 0: 0 [] []
		mute 1: 0 [] [{1 2 55}]
		unmute 1: 0 [] []
		sounding: []
		step: 48 [{1 1 60}] []
		step: 96 [{0 1 62}] [{1 1 60}]`)
	follows(t, player(duet()), `
		step: 0 [{0 1 60} {0 2 56} {1 2 55}] []
		mute -1: error 1
		mute 2: error 1
		unmute 2: error 1
		sounding: [{0 1 60} {0 2 56} {1 2 55}]
		step: 48 [{1 1 60}] []`)
}

// P9.4: Seek.
func TestSeek(t *testing.T) {
	follows(t, player(duet()), `
		step: 0 [{0 1 60} {0 2 56} {1 2 55}] []
		seek 48: 48 [] [{0 1 60} {0 2 56} {1 2 55}]
		takes: [{0 1 60 0 0} {0 2 56 0 0} {1 2 55 0 0}]
		now: 48
		clock: 0
		next: 48
		sounding: []
		step: 48 [{1 1 60}] []
		step: 96 [{0 1 62}] [{1 1 60}]
		clock: 48
		seek 192: 192 [] [{0 1 62}]
		done: false
		next: 192
		clock: 48
		step: 192 [] []
		done: true
		clock: 48
		seek 50: 50 [] []
		seek 50: 50 [] []
		next: 50
		step: 50 [] []
		next: 96
		step: 96 [{0 1 62}] []
		clock: 94
		seek 193: error 1
		seek -1: error 1
		now: 96
		sounding: [{0 1 62}]
		next: 192
		seek 96: 96 [] [{0 1 62}]
		step: 96 [{0 1 62}] []
		takes: [{0 1 60 0 0} {0 2 56 0 0} {1 2 55 0 0} {1 1 60 0 48} {0 1 62 48 48} {0 1 62 94 94}]`)
}

// P9.4: Repeat.
func TestRepeat(t *testing.T) {
	follows(t, player(duet()), `
		repeat 48 96 2: 0
		step: 0 [{0 1 60} {0 2 56} {1 2 55}] []
		step: 48 [{1 1 60}] []
		next: 96
		step: 48 [{1 1 60}] [{0 1 60} {0 2 56} {1 1 60} {1 2 55}]
		now: 48
		clock: 96
		sounding: [{1 1 60}]
		step: 48 [{1 1 60}] [{1 1 60}]
		clock: 144
		step: 96 [{0 1 62}] [{1 1 60}]
		step: 192 [] [{0 1 62}]
		done: true
		clock: 288
		takes: [{0 1 60 0 96} {0 2 56 0 96} {1 1 60 48 96} {1 2 55 0 96} {1 1 60 96 144} {1 1 60 144 192} {0 1 62 192 288}]`)
	// From and to need not be times of notes; notes that began before from do not sound.
	follows(t, player(duet()), `
		repeat 10 60 1: 0
		step: 0 [{0 1 60} {0 2 56} {1 2 55}] []
		step: 48 [{1 1 60}] []
		next: 60
		step: 10 [] [{0 1 60} {0 2 56} {1 1 60} {1 2 55}]
		clock: 60
		next: 48
		step: 48 [{1 1 60}] []
		clock: 98
		next: 96
		seek 48: 48 [] [{1 1 60}]
		step: 48 [{1 1 60}] []
		next: 96`)
	// After the repeat the desks play what begins from its beginning on, also one that was silent.
	follows(t, player(duet()), `
		step: 0 [{0 1 60} {0 2 56} {1 2 55}] []
		mute 0: 0 [] [{0 1 60} {0 2 56}]
		unmute 0: 0 [] []
		repeat 0 48 1: 0
		step: 0 [{0 1 60} {0 2 56} {1 2 55}] [{1 2 55}]`)
	follows(t, player(duet()), `
		mute 0: 0 [] []
		repeat 0 96 1: 0
		step: 0 [{1 2 55}] []
		step: 48 [{1 1 60}] []
		step: 0 [{1 2 55}] [{1 1 60} {1 2 55}]
		unmute 0: 0 [] []
		step: 48 [{1 1 60}] []
		step: 96 [{0 1 62}] [{1 1 60} {1 2 55}]`)
}

// P9.4: the repeat is another one, or over, or behind the player.
func TestRepeatEdges(t *testing.T) {
	follows(t, player(duet()), `
		repeat 0 96 5: 0
		repeat 0 192 1: 0
		step: 0 [{0 1 60} {0 2 56} {1 2 55}] []
		step: 48 [{1 1 60}] []
		step: 96 [{0 1 62}] [{0 1 60} {0 2 56} {1 1 60} {1 2 55}]
		repeat 0 192 0: 0
		step: 192 [] [{0 1 62}]
		repeat 0 192 1: 0
		done: true
		step: error 92
		seek 96: 96 [] []
		step: 96 [{0 1 62}] []
		step: 0 [{0 1 60} {0 2 56} {1 2 55}] [{0 1 62}]
		repeat 0 60 0: 0
		step: 48 [{1 1 60}] []
		next: 96`)
	// The player is at the end of the repeat, and does not go back from there; but the times are left.
	follows(t, player(duet()), `
		repeat 0 96 1: 0
		seek 96: 96 [] []
		next: 96
		step: 96 [{0 1 62}] []
		next: 192
		step: 192 [] [{0 1 62}]
		done: true
		seek 48: 48 [] []
		step: 48 [{1 1 60}] []
		step: 0 [{0 1 60} {0 2 56} {1 2 55}] [{1 1 60}]
		seek 48: 48 [] [{0 1 60} {0 2 56} {1 2 55}]
		step: 48 [{1 1 60}] []
		step: 96 [{0 1 62}] [{1 1 60}]`)
	// What is refused changes nothing.
	follows(t, player(duet()), `
		repeat 0 48 1: 0
		repeat 0 193 1: 1
		repeat -1 96 1: 1
		repeat 48 48 1: 1
		repeat 96 48 1: 1
		repeat 96 0 1: 1
		repeat 0 96 -1: 1
		repeat 0 96 101: 1
		step: 0 [{0 1 60} {0 2 56} {1 2 55}] []
		step: 0 [{0 1 60} {0 2 56} {1 2 55}] [{0 1 60} {0 2 56} {1 2 55}]
		repeat 191 192 100: 0
		repeat 0 1 100: 0
		next: 1`)
}

// P9.4: a copy has the same state, and goes on by itself.
func TestCopy(t *testing.T) {
	p := player(duet())
	follows(t, p, `
		repeat 0 96 1: 0
		step: 0 [{0 1 60} {0 2 56} {1 2 55}] []
		step: 48 [{1 1 60}] []
		mute 0: 48 [] [{0 1 60} {0 2 56}]`)
	q := p.Copy()
	waiting := player(duet()).Copy()
	follows(t, p, `
		unmute 0: 48 [] []
		step: 0 [{0 1 60} {0 2 56} {1 2 55}] [{1 1 60} {1 2 55}]
		repeat 0 48 3: 0
		seek 96: 96 [] [{0 1 60} {0 2 56} {1 2 55}]
		step: 96 [{0 1 62}] []`)
	follows(t, q, `
		now: 48
		clock: 48
		sounding: [{1 1 60} {1 2 55}]
		takes: [{0 1 60 0 48} {0 2 56 0 48}]
		step: 0 [{1 2 55}] [{1 1 60} {1 2 55}]
		step: 48 [{1 1 60}] []
		step: 96 [] [{1 1 60} {1 2 55}]
		takes: [{0 1 60 0 48} {0 2 56 0 48} {1 1 60 48 96} {1 2 55 0 96} {1 1 60 144 192} {1 2 55 96 192}]`)
	follows(t, p, `
		clock: 96
		sounding: [{0 1 62}]
		takes: [{0 1 60 0 48} {0 2 56 0 48} {1 1 60 48 96} {1 2 55 0 96} {0 1 60 96 96} {0 2 56 96 96} {1 2 55 96 96}]`)
	follows(t, waiting, `
		next: 0
		step: 0 [{0 1 60} {0 2 56} {1 2 55}] []`)
}

// P9.4, R3: nil has no player.
func TestNil(t *testing.T) {
	var p *consort.Player
	follows(t, p, `
		now: 0
		clock: 0
		sounding: []
		takes: []
		done: false
		next: error 5
		step: error 5
		seek 0: error 5
		seek -1: error 5
		repeat 0 1 1: 5
		repeat 5 0 -1: 5
		mute 0: error 5
		unmute -1: error 5`)
	if p.Copy() != nil {
		t.Error("a copy of nil")
	}
}
