package voice_test

import (
	"math/rand/v2"
	"slices"
	"testing"

	"theorbo/api"
	"theorbo/instrument"
	"theorbo/sound"
	"theorbo/voice"
)

// sung is a list of notes that has been made of voices, with limits that allow them.
type sung struct {
	task
	voices []int
}

// sing makes voices that wander about, each around a pitch of its own.
func sing(r *rand.Rand) sung {
	type begun struct {
		voice int
		tone  api.Tone
	}
	l := api.Limits{Leap: 2 + r.IntN(4), Gap: r.IntN(4), Cross: api.MaxCross}
	var all []begun
	for v := range 1 + r.IntN(api.MaxVoices) {
		middle := 80 - 7*v
		l.Low, l.High = append(l.Low, middle-5), append(l.High, middle+5)
		pitch, time := middle, 12*r.IntN(3)
		for time < 300 {
			to := time + 6*(1+r.IntN(6))
			all = append(all, begun{v + 1, api.Tone{Pitch: pitch, From: time, To: to}})
			pitch = min(max(pitch+r.IntN(2*l.Leap+1)-l.Leap, middle-5), middle+5)
			time = to + 6*max(0, r.IntN(9)-7)
		}
	}
	r.Shuffle(len(all), func(i, j int) { all[i], all[j] = all[j], all[i] })
	slices.SortStableFunc(all, func(a, b begun) int { return a.tone.From - b.tone.From })
	s := sung{task: task{l: l}}
	event, course := 0, 0
	for i, b := range all {
		if i > 0 && b.tone.From > all[i-1].tone.From {
			event, course = event+1, 0
		}
		course++
		s.n = append(s.n, api.Note{Event: event, Course: course, Pitch: b.tone.Pitch, From: b.tone.From, To: b.tone.To})
		s.voices = append(s.voices, b.voice)
	}
	return s
}

// songs are lists of notes that cannot be tried out, with their first assignments.
func songs(t *testing.T) (songs []sung, first [][]api.Voicing) {
	t.Helper()
	r := rand.New(rand.NewPCG(15, 16))
	for len(songs) < 60 {
		s := sing(r)
		l, e := voice.List(s.l, s.n, 64)
		if e == api.ErrMany {
			continue
		}
		if e != api.OK {
			t.Fatalf("List of %v: %d", s.task, e)
		}
		songs, first = append(songs, s), append(first, l)
	}
	return songs, first
}

// judged returns an assignment with its numbers as the document and as Valid have them.
func judged(t *testing.T, k task, voices []int) (api.Voicing, bool) {
	t.Helper()
	want, wantAt, valid := judge(k.l, k.n, voices)
	v, at, e := voice.Valid(k.l, k.n, voices)
	if !sameVoicing(v, want) || at != wantAt || (e == api.OK) != valid {
		t.Fatalf("Valid of %v, %v = %v, %d, %d; it should be %v, %d", k, voices, v, at, e, want, wantAt)
	}
	return v, valid
}

// P7.8, P7.9: what List returns is valid, different and in order.
func TestListed(t *testing.T) {
	songs, first := songs(t)
	full := 0
	for i, s := range songs {
		l := first[i]
		full += len(l) / 64
		for j, v := range l {
			if same, valid := judged(t, s.task, v.Voices); !valid || !sameVoicing(same, v) {
				t.Fatalf("List of %v has %v, which is %v, %v", s.task, v, same, valid)
			}
			if j > 0 && compareVoicings(l[j-1], v) >= 0 {
				t.Fatalf("List of %v has %v before %v", s.task, l[j-1], v)
			}
		}
		count, e := voice.Count(s.l, s.n)
		if e != api.OK || len(l) != min(count, 64) {
			t.Fatalf("List of %v has %d of %d assignments", s.task, len(l), count)
		}
		for _, most := range []int{1, 2, 63} {
			fewer, e := voice.List(s.l, s.n, most)
			if e != api.OK || !slices.EqualFunc(fewer, l[:min(most, len(l))], sameVoicing) {
				t.Fatalf("List of %v with %d = %v, %d", s.task, most, fewer, e)
			}
		}
		best, e := voice.Best(s.l, s.n)
		if e != api.OK || !sameVoicing(best, l[0]) {
			t.Fatalf("Best of %v = %v, %d; the first one listed is %v", s.task, best, e, l[0])
		}
	}
	if full < 20 {
		t.Errorf("only %d long lists", full)
	}
}

// P7.8, P7.9: the voices of which the notes have been made, and what is near to a listed assignment, are listed if they come before the last one.
func TestNoneBefore(t *testing.T) {
	r := rand.New(rand.NewPCG(17, 18))
	songs, first := songs(t)
	near := 0
	for i, s := range songs {
		l := first[i]
		for try := range 300 {
			voices := slices.Clone(l[r.IntN(len(l))].Voices)
			if try == 0 {
				voices = s.voices
			}
			for range r.IntN(4) {
				if at := r.IntN(len(voices)); try > 0 {
					voices[at] = 1 + r.IntN(len(s.l.Low))
				}
			}
			v, valid := judged(t, s.task, voices)
			if try == 0 && !valid {
				t.Fatalf("the voices of %v are not valid", s.task)
			}
			if !valid || compareVoicings(v, l[len(l)-1]) > 0 {
				continue
			}
			near++
			if !slices.ContainsFunc(l, func(other api.Voicing) bool { return sameVoicing(v, other) }) {
				t.Fatalf("List of %v does not have %v", s.task, v)
			}
		}
	}
	if near < 1000 {
		t.Errorf("only %d assignments", near)
	}
}

// sounding checks that parts sound exactly some notes: the tones may only end earlier.
func sounding(t *testing.T, n []api.Note, voices []int, count int) {
	t.Helper()
	parts, e := voice.Parts(n, voices, count)
	if e != api.OK || voice.CheckParts(parts) != api.OK {
		t.Fatalf("Parts of %v, %v = %v, %d", n, voices, parts, e)
	}
	next := make([]int, count)
	for i, note := range n {
		tone := parts[voices[i]-1][next[voices[i]-1]]
		next[voices[i]-1]++
		if tone.Pitch != note.Pitch || tone.From != note.From || tone.To > note.To || tone.To <= tone.From {
			t.Fatalf("Parts of %v, %v has %v for %v", n, voices, tone, note)
		}
	}
	for v, p := range parts {
		if len(p) != next[v] {
			t.Fatalf("Parts of %v, %v has %d tones for the %d notes of voice %d", n, voices, len(p), next[v], v+1)
		}
		for i := range p {
			if i > 0 && p[i].From < p[i-1].To {
				t.Fatalf("Parts of %v, %v: %v overlaps %v", n, voices, p[i], p[i-1])
			}
		}
	}
	all, e := voice.Sounds(parts)
	if e != api.OK || len(all) != len(n) {
		t.Fatalf("Sounds of %v = %v, %d", parts, all, e)
	}
}

// P7.7, P0.5: the parts of any valid assignment sound exactly the notes.
func TestExactly(t *testing.T) {
	songs, first := songs(t)
	for i, s := range songs {
		for _, v := range first[i] {
			sounding(t, s.n, v.Voices, len(s.l.Low))
		}
		parts, _ := voice.Parts(s.n, s.voices, len(s.l.Low))
		for v, p := range parts {
			for j, tone := range p {
				k := slices.IndexFunc(s.n, func(n api.Note) bool { return n.From == tone.From })
				for s.voices[k] != v+1 {
					k++
				}
				if tone != (api.Tone{Pitch: s.n[k].Pitch, From: s.n[k].From, To: s.n[k].To}) {
					t.Fatalf("the tone %d of voice %d of %v is %v", j, v+1, s.task, tone)
				}
			}
		}
	}
}

// anyPiece returns a piece that a lute may play, not only with one hand.
func anyPiece(r *rand.Rand) api.Piece {
	in, _ := instrument.Standard("lute6")
	p := api.Piece{Instrument: in}
	for range 1 + r.IntN(12) {
		ev := api.Event{Sign: api.Sign{Value: 3 + r.IntN(3)}}
		for course := range 6 {
			if r.IntN(4) == 0 && len(ev.Stops) < 3 {
				ev.Stops = append(ev.Stops, api.Stop{Course: course + 1, Fret: r.IntN(4)})
			}
		}
		p.Events = append(p.Events, ev)
	}
	return p
}

// P0.5, P7.7: the voices of a tablature sound what the tablature sounds.
func TestTablature(t *testing.T) {
	r := rand.New(rand.NewPCG(19, 20))
	l := limits("12 96 3", "40 40 40 40", "84 84 84 84")
	done := 0
	for range 300 {
		n, e := sound.Notes(anyPiece(r))
		if e != api.OK || voice.CheckNotes(n) != api.OK {
			t.Fatalf("%v, %d", n, e)
		}
		best, e := voice.Best(l, n)
		if e != api.OK {
			continue
		}
		done++
		sounding(t, n, best.Voices, 4)
	}
	if done < 100 {
		t.Errorf("only %d pieces", done)
	}
	in, _ := instrument.Standard("lute6")
	p := api.Piece{Instrument: in, Events: []api.Event{
		{Sign: api.Sign{Value: 3}, Stops: []api.Stop{{Course: 1}, {Course: 6}}},
		{Stops: []api.Stop{{Course: 1, Fret: 2}}},
	}}
	n, _ := sound.Notes(p)
	best, e := voice.Best(limits("5 0 0", "60 40", "80 60"), n)
	wants(t, "Best", shownVoicings([]api.Voicing{best}), e, "1 2 1 (0, 2)")
}

// wider returns limits that allow more.
func wider(r *rand.Rand, l api.Limits) api.Limits {
	l.Low, l.High = slices.Clone(l.Low), slices.Clone(l.High)
	for range 3 {
		i := r.IntN(len(l.Low))
		switch r.IntN(4) {
		case 0:
			l.Leap = min(l.Leap+1+r.IntN(9), api.MaxPitch)
		case 1:
			l.Cross = min(l.Cross+1, api.MaxCross)
		case 2:
			l.Low[i] = max(l.Low[i]-1-r.IntN(5), 0)
		default:
			l.High[i] = min(l.High[i]+1+r.IntN(5), api.MaxPitch)
		}
	}
	return l
}

// P7.10: wider limits allow what the limits allow.
func TestWiderLimits(t *testing.T) {
	r := rand.New(rand.NewPCG(21, 22))
	compared := 0
	tasks, verdicts := verdicts()
	for i, k := range tasks {
		more := wider(r, k.l)
		for _, v := range verdicts[i].all[:min(8, len(verdicts[i].all))] {
			same, at, e := voice.Valid(more, k.n, v.Voices)
			if e != api.OK || at != 0 || !sameVoicing(same, v) {
				t.Fatalf("Valid of %v, %v = %v, %d, %d with the limits %v", k, v, same, at, e, more)
			}
			compared++
		}
		before, e := voice.Best(k.l, k.n)
		after, f := voice.Best(more, k.n)
		if e == api.OK && f != api.ErrMany && (f != api.OK || compareVoicings(after, before) > 0) {
			t.Fatalf("Best of %v = %v; with the limits %v it is %v, %d", k, before, more, after, f)
		}
	}
	if compared < 3000 {
		t.Errorf("only %d assignments", compared)
	}
}

// P7.10: at other pitches the assignments are the same.
func TestRaised(t *testing.T) {
	r := rand.New(rand.NewPCG(23, 24))
	songs, _ := songs(t)
	tasks, _ := verdicts()
	for _, s := range songs {
		tasks = append(tasks, s.task)
	}
	for _, k := range tasks {
		least, greatest := -slices.Min(k.l.Low), api.MaxPitch-slices.Max(k.l.High)
		for _, n := range k.n {
			least, greatest = max(least, -n.Pitch), min(greatest, api.MaxPitch-n.Pitch)
		}
		raised := task{k.l, slices.Clone(k.n)}
		raised.l.Low, raised.l.High = slices.Clone(k.l.Low), slices.Clone(k.l.High)
		by := []int{least, greatest, least + r.IntN(greatest-least+1)}[r.IntN(3)]
		for i := range raised.l.Low {
			raised.l.Low[i] += by
			raised.l.High[i] += by
		}
		for i := range raised.n {
			raised.n[i].Pitch += by
		}
		a, e := voice.List(k.l, k.n, 64)
		b, f := voice.List(raised.l, raised.n, 64)
		if e != f || !slices.EqualFunc(a, b, sameVoicing) {
			t.Fatalf("List of %v = %v, %d; raised by %d it is %v, %d", k, a, e, by, b, f)
		}
	}
}

// P7.11: the notes up to an event are validly assigned, with no more crossings and motion.
func TestBeginnings(t *testing.T) {
	songs, first := songs(t)
	for i, s := range songs {
		for _, v := range first[i][:min(4, len(first[i]))] {
			before := api.Voicing{}
			for _, behind := range eventsOf(s.n) {
				part, at, e := voice.Valid(s.l, s.n[:behind], v.Voices[:behind])
				if e != api.OK || at != 0 || part.Crossings < before.Crossings || part.Motion < before.Motion {
					t.Fatalf("Valid of the first %d notes of %v, %v = %v, %d, %d", behind, s.task, v, part, at, e)
				}
				before = part
			}
			if !sameVoicing(before, v) {
				t.Fatalf("Valid of %v, %v = %v", s.task, v, before)
			}
		}
	}
}

// P7.12: with the parts exchanged meetings have the opposite intervals.
func TestExchanged(t *testing.T) {
	r := rand.New(rand.NewPCG(25, 26))
	for range 1000 {
		upper := anyPart(r, 20)
		lower := anyPart(r, 20)
		if r.IntN(2) == 0 {
			lower = companion(r, upper)
		}
		a, e := voice.Meetings(upper, lower)
		b, f := voice.Meetings(lower, upper)
		for i := range b {
			b[i].Interval = -b[i].Interval
		}
		if e != api.OK || f != api.OK || !slices.Equal(a, b) {
			t.Fatalf("Meetings of %v, %v = %v, %d; exchanged %v, %d", upper, lower, a, e, b, f)
		}
	}
}

// P7.12: the voices of a song are written, and read again.
func TestWrittenSongs(t *testing.T) {
	songs, first := songs(t)
	for i, s := range songs {
		parts, _ := voice.Parts(s.n, first[i][0].Voices, len(s.l.Low))
		for _, p := range parts {
			end := 360
			if len(p) > 0 {
				end = max(end, p[len(p)-1].To+12)
			}
			l, e := voice.Set(p, end)
			if e != api.OK {
				t.Fatalf("Set of %v: %d", p, e)
			}
			back, at, e := voice.Unset(l)
			if e != api.OK || at != end || !slices.Equal(back, p) {
				t.Fatalf("Unset of Set of %v, %d = %v, %d, %d", p, end, back, at, e)
			}
		}
	}
}
