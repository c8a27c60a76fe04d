package intabulate_test

import (
	"cmp"
	"fmt"
	"math"
	"math/rand/v2"
	"slices"
	"strconv"
	"strings"
	"sync"
	"testing"

	"theorbo/api"
	"theorbo/hand"
	"theorbo/instrument"
	"theorbo/intabulate"
	"theorbo/piece"
	"theorbo/voice"
)

// hostile are arguments that no range allows, and the ends of common ranges.
var hostile = []int{math.MinInt, math.MinInt + 1, -1 << 62, -128, -25, -24, -2, -1, 0, 1, 2, 3, 4, 14, 15, 24, 25, 32, 64, 65, 127, 128, 400, 401, 262144, 262145, 1 << 62, math.MaxInt - 1, math.MaxInt}

// numbers reads numbers that are separated by spaces.
func numbers(t string) []int {
	var l []int
	for _, w := range strings.Fields(t) {
		n, err := strconv.Atoi(w)
		if err != nil {
			panic(err)
		}
		l = append(l, n)
	}
	return l
}

// part makes a part of pitch, from and to: `67 0 96, 69 96 192`; the empty text has no tones.
func part(t string) []api.Tone {
	var l []api.Tone
	if strings.TrimSpace(t) == "" {
		return nil
	}
	for tone := range strings.SplitSeq(t, ",") {
		n := numbers(tone)
		l = append(l, api.Tone{Pitch: n[0], From: n[1], To: n[2]})
	}
	return l
}

// parts makes parts that are separated by semicolons; `none` are no parts.
func parts(t string) [][]api.Tone {
	if t == "none" {
		return nil
	}
	var l [][]api.Tone
	for p := range strings.SplitSeq(t, ";") {
		l = append(l, part(p))
	}
	return l
}

// joined shows the elements of a list with something between them.
func joined[T any](l []T, between string, show func(T) string) string {
	var all []string
	for _, x := range l {
		all = append(all, show(x))
	}
	return strings.Join(all, between)
}

func shownTone(t api.Tone) string { return fmt.Sprint(t.Pitch, " ", t.From, " ", t.To) }

func shownPart(l []api.Tone) string { return joined(l, ", ", shownTone) }

func shownParts(l [][]api.Tone) string { return joined(l, "; ", shownPart) }

func shownNumbers(l []int) string { return joined(l, " ", strconv.Itoa) }

// figures makes figures of interval, moves and shares: `2: 0 -1 0 1: 1 1 1 1`, separated by commas.
func figures(t string) []api.Figure {
	var l []api.Figure
	if t == "" {
		return nil
	}
	for f := range strings.SplitSeq(t, ",") {
		w := strings.Split(f, ":")
		l = append(l, api.Figure{Interval: numbers(w[0])[0], Moves: numbers(w[1]), Shares: numbers(w[2])})
	}
	return l
}

// strings of a text that instrument.Parse reads.
func strung(t string) api.Instrument {
	in, e := instrument.Parse(t)
	if e != api.OK {
		panic(t)
	}
	return in
}

func lute() api.Instrument {
	in, _ := instrument.Standard("lute6")
	return in
}

// equalCourses returns an instrument whose courses have one pitch and as many frets as possible.
func equalCourses(count, pitch int) api.Instrument {
	in := api.Instrument{Courses: slices.Repeat([]api.Course{{Pitch: pitch, Frets: api.MaxFrets}}, count)}
	for step := range api.MaxFrets {
		in.Steps = append(in.Steps, step+1)
	}
	return in
}

// wide is a hand whose four fingers reach as far as possible.
func wide() api.Hand {
	return api.Hand{Low: numbers("0 0 0 0"), High: numbers("8 8 8 8"), Barre: slices.Repeat([]bool{true}, 4), Top: 18, Jump: 18}
}

// hooks is a hand whose fingers cannot stretch: one for each of so many frets.
func hooks(count, top, jump int) api.Hand {
	h := api.Hand{Top: top, Jump: jump}
	for i := range count {
		h.Low, h.High, h.Barre = append(h.Low, i), append(h.High, i), append(h.Barre, false)
	}
	return h
}

func shownPlace(pl api.Place) string {
	if pl == (api.Place{}) {
		return "-"
	}
	return fmt.Sprintf("%d.%d", pl.Course, pl.Fret)
}

// shownEvent shows a sign by its value, with `.` or `t`, and stops as `1.2_3` with their holds; a tie is `~`, a rest `%`.
func shownEvent(ev api.Event) string {
	t := strconv.Itoa(ev.Sign.Value)
	if ev.Sign.Dot {
		t += "."
	}
	if ev.Sign.Three {
		t += "t"
	}
	if ev.Bar {
		t = "| " + t
	}
	switch {
	case ev.Tie:
		t += " ~"
	case len(ev.Stops) == 0:
		t += " %"
	}
	for _, st := range ev.Stops {
		t += " " + shownPlace(api.Place{Course: st.Course, Fret: st.Fret})
		if st.Hold > 0 {
			t += fmt.Sprint("_", st.Hold)
		}
		if st.Right+st.Grace != 0 {
			t += "!"
		}
	}
	return t
}

func shownEvents(l []api.Event) string { return joined(l, "; ", shownEvent) }

func shownLoss(l api.Loss) string {
	kind := map[int]string{api.Dropped: "dropped", api.Doubled: "doubled", api.Cut: "cut"}[l.Kind]
	return fmt.Sprintf("%d.%d %s %d", l.Part, l.Tone, kind, l.Time)
}

func shownLosses(l []api.Loss) string { return joined(l, ", ", shownLoss) }

func shownWhere(l [][]api.Place) string {
	return joined(l, "; ", func(l []api.Place) string { return joined(l, " ", shownPlace) })
}

func sameSetting(a, b api.Setting) bool {
	return piece.Same(a.Piece, b.Piece) && a.Shift == b.Shift && slices.Equal(a.Losses, b.Losses) &&
		slices.EqualFunc(a.Where, b.Where, slices.Equal[[]api.Place])
}

func cloneSetting(s api.Setting) api.Setting {
	s.Piece, _ = piece.Cut(s.Piece, 0, len(s.Piece.Events))
	s.Losses = slices.Clone(s.Losses)
	s.Where = slices.Clone(s.Where)
	for i := range s.Where {
		s.Where[i] = slices.Clone(s.Where[i])
	}
	return s
}

// task is what may be set, and for what.
type task struct {
	parts [][]api.Tone
	in    api.Instrument
	h     api.Hand
	shift int
}

func (k task) String() string {
	return fmt.Sprintf("%s; %v, %v, %d", shownParts(k.parts), k.in, k.h, k.shift)
}

func (k task) set() (api.Setting, api.Errno) {
	return intabulate.Intabulate(k.parts, k.in, k.h, k.shift)
}

// must returns the setting of a task that has one.
func (k task) must(t *testing.T) api.Setting {
	t.Helper()
	s, e := k.set()
	if e != api.OK {
		t.Fatalf("Intabulate of %v: %d", k, e)
	}
	return s
}

// What follows is the document, choice by choice, without a thought of how long it takes.

// played is a note of the document.
type played struct {
	pitch, from, to int
	members         []api.Loss // only their parts and tones
	place           api.Place
	event, cut      int
}

// making is a setting that is not finished.
type making struct {
	task
	events []api.Event
	notes  []*played
}

// ruling is a choice of the document.
type ruling struct {
	places []api.Place
	cut    []bool
}

// sounds reports whether a tone of any part sounds at a time.
func sounds(parts [][]api.Tone, t int) bool {
	return slices.ContainsFunc(slices.Concat(parts...), func(tone api.Tone) bool { return tone.From <= t && t < tone.To })
}

// timesOf returns the times of parts.
func timesOf(parts [][]api.Tone) []int {
	times := []int{0}
	for _, tone := range slices.Concat(parts...) {
		times = append(times, tone.From)
		if !sounds(parts, tone.To) {
			times = append(times, tone.To)
		}
	}
	slices.Sort(times)
	return slices.Compact(times)
}

// begin returns the notes that begin at a time.
func (m *making) begin(t int) []*played {
	var l []*played
	for i, p := range m.parts {
		for j, tone := range p {
			if tone.From != t {
				continue
			}
			k := slices.IndexFunc(l, func(n *played) bool { return n.pitch == tone.Pitch })
			if k < 0 {
				k, l = len(l), append(l, &played{pitch: tone.Pitch, from: t})
			}
			l[k].members = append(l[k].members, api.Loss{Part: i, Tone: j})
			l[k].to = max(l[k].to, tone.To)
		}
	}
	return l
}

// unfinished returns the notes that are unfinished at a time.
func (m *making) unfinished(t int) []*played {
	var l []*played
	for _, n := range m.notes {
		if n.from < t && n.place.Course > 0 && n.cut == 0 && n.to > t {
			l = append(l, n)
		}
	}
	slices.SortFunc(l, func(a, b *played) int {
		return cmp.Or(cmp.Compare(a.members[0].Part, b.members[0].Part), cmp.Compare(a.from, b.from))
	})
	return l
}

// rulings returns all choices that do not break the rules 1 and 2, and drop not all new notes.
func (m *making) rulings(fresh, unfinished []*played) []ruling {
	all := []ruling{{}}
	for _, n := range fresh {
		places, _ := instrument.Places(m.in, n.pitch+m.shift)
		var longer []ruling
		for _, r := range all {
			for _, pl := range append(places, api.Place{}) {
				if pl.Course == 0 || !slices.ContainsFunc(r.places, func(other api.Place) bool { return other.Course == pl.Course }) {
					longer = append(longer, ruling{places: append(slices.Clone(r.places), pl)})
				}
			}
		}
		all = longer
	}
	for _, n := range unfinished {
		var longer []ruling
		for _, r := range all {
			taken := slices.ContainsFunc(r.places, func(pl api.Place) bool { return pl.Course == n.place.Course })
			late := n.place.Fret > 0 && len(m.events)-n.event > api.MaxHold
			if !taken && !late {
				longer = append(longer, ruling{r.places, append(slices.Clone(r.cut), false)})
			}
			if taken || n.place.Fret > 0 {
				longer = append(longer, ruling{r.places, append(slices.Clone(r.cut), true)})
			}
		}
		all = longer
	}
	return slices.DeleteFunc(all, func(r ruling) bool { return len(fresh) == sum(r.drops()) })
}

func sum(l []int) int {
	n := 0
	for _, x := range l {
		n += x
	}
	return n
}

func (r ruling) drops() []int {
	var l []int
	for _, pl := range r.places {
		l = append(l, map[bool]int{true: 1}[pl.Course == 0])
	}
	return l
}

func (r ruling) cuts() []int {
	var l []int
	for _, cut := range r.cut {
		l = append(l, map[bool]int{true: 1}[cut])
	}
	return l
}

func (r ruling) columns() (courses, frets []int) {
	for _, pl := range r.places {
		courses, frets = append(courses, pl.Course), append(frets, pl.Fret)
	}
	return courses, frets
}

// compareRulings orders choices as the document does.
func compareRulings(a, b ruling) int {
	coursesA, fretsA := a.columns()
	coursesB, fretsB := b.columns()
	return cmp.Or(
		cmp.Compare(sum(a.drops()), sum(b.drops())), slices.Compare(a.drops(), b.drops()),
		cmp.Compare(sum(a.cuts()), sum(b.cuts())), slices.Compare(a.cuts(), b.cuts()),
		cmp.Compare(sum(fretsA), sum(fretsB)), slices.Compare(coursesA, coursesB))
}

// tried returns the events with the chord of a choice. They are played if the hand can do that.
func (m *making) tried(r ruling, unfinished []*played, sign api.Sign) (events []api.Event, can bool) {
	for _, ev := range m.events {
		ev.Stops = slices.Clone(ev.Stops)
		events = append(events, ev)
	}
	for i, n := range unfinished {
		if r.cut[i] || n.place.Fret == 0 {
			continue
		}
		for j := range events[n.event].Stops {
			if st := &events[n.event].Stops[j]; st.Course == n.place.Course {
				st.Hold = len(m.events) - n.event
			}
		}
	}
	ev := api.Event{Sign: sign}
	for _, pl := range r.places {
		if pl.Course > 0 {
			ev.Stops = append(ev.Stops, api.Stop{Course: pl.Course, Fret: pl.Fret})
		}
	}
	slices.SortFunc(ev.Stops, func(a, b api.Stop) int { return a.Course - b.Course })
	events = append(events, ev)
	return events, m.fingered(events)
}

// fingered reports whether a hand can play events.
func (m *making) fingered(events []api.Event) bool {
	chords, e := hand.Chords(api.Piece{Instrument: m.in, Events: events})
	if e != api.OK {
		panic(fmt.Sprint("no piece: ", e, shownEvents(events)))
	}
	ways, e := hand.Count(m.h, chords)
	return e == api.OK && ways > 0
}

// stretch makes the events from one time on.
func (m *making) stretch(t int, signs []api.Sign) {
	fresh, unfinished := m.begin(t), m.unfinished(t)
	all := m.rulings(fresh, unfinished)
	slices.SortFunc(all, compareRulings)
	for _, r := range all {
		events, can := m.tried(r, unfinished, signs[0])
		if !can {
			continue
		}
		for i, n := range fresh {
			n.place, n.event = r.places[i], len(m.events)
		}
		for i, n := range unfinished {
			if r.cut[i] {
				n.cut = t
			}
		}
		m.events, signs = events, signs[1:]
		unfinished = fresh
		break
	}
	m.notes = append(m.notes, fresh...)
	for _, sign := range signs {
		m.events = append(m.events, api.Event{Sign: sign, Tie: len(unfinished) > 0})
	}
}

// written returns a task's setting by the document.
func (k task) written() api.Setting {
	m := &making{task: k}
	times := timesOf(k.parts)
	for i, t := range times[:len(times)-1] {
		signs, e := piece.Signs(times[i+1] - t)
		if e != api.OK {
			panic("no signs")
		}
		m.stretch(t, signs)
	}
	s := api.Setting{Piece: api.Piece{Instrument: k.in, Events: m.events}, Shift: k.shift}
	for _, p := range k.parts {
		s.Where = append(s.Where, make([]api.Place, len(p)))
	}
	for _, n := range m.notes {
		for i, member := range n.members {
			tone := k.parts[member.Part][member.Tone]
			s.Where[member.Part][member.Tone] = n.place
			lose := func(kind, time int) {
				s.Losses = append(s.Losses, api.Loss{Part: member.Part, Tone: member.Tone, Kind: kind, Time: time})
			}
			if n.place.Course == 0 {
				lose(api.Dropped, tone.From)
			} else if i > 0 {
				lose(api.Doubled, tone.From)
			}
			if n.cut > 0 && tone.To > n.cut {
				lose(api.Cut, n.cut)
			}
		}
	}
	slices.SortFunc(s.Losses, func(a, b api.Loss) int {
		return cmp.Or(a.Part-b.Part, a.Tone-b.Tone, a.Kind-b.Kind)
	})
	return s
}

// anyPart returns a valid part of a few tones, at times and with lengths that are multiples of a unit.
func anyPart(r *rand.Rand, most, low, high, unit int) []api.Tone {
	var p []api.Tone
	time := unit * r.IntN(3) * r.IntN(2)
	for range r.IntN(most + 1) {
		to := time + unit*(1+r.IntN(4))
		if r.IntN(6) == 0 {
			to += 8 * unit
		}
		p = append(p, api.Tone{Pitch: low + r.IntN(high-low+1), From: time, To: to})
		time = to + unit*max(0, r.IntN(9)-6)
	}
	return p
}

func anyParts(r *rand.Rand, count, most, low, high int) [][]api.Tone {
	var l [][]api.Tone
	unit := []int{6, 12, 24, 30, 48}[r.IntN(5)]
	for range count {
		l = append(l, anyPart(r, most, low, high, unit))
	}
	if voice.CheckParts(l) != api.OK {
		panic("no valid parts")
	}
	return l
}

// anyInstrument returns a small instrument, whose courses are near to each other.
func anyInstrument(r *rand.Rand) api.Instrument {
	var in api.Instrument
	step := 0
	for range r.IntN(8) {
		step += 1 + max(0, r.IntN(4)-2)
		in.Steps = append(in.Steps, step)
	}
	for range 1 + r.IntN(5) {
		in.Courses = append(in.Courses, api.Course{Pitch: 58 + r.IntN(6), Frets: max(0, len(in.Steps)-r.IntN(4)), Octave: r.IntN(3) == 0})
	}
	if instrument.Check(in) != api.OK {
		panic("no valid instrument")
	}
	return in
}

// anyHand returns a hand that may be quite unable.
func anyHand(r *rand.Rand) api.Hand {
	h := []api.Hand{hand.Standard(), wide(), hooks(1+r.IntN(4), 1+r.IntN(6), r.IntN(3)), hooks(4, 5, 1)}[r.IntN(4)]
	if r.IntN(2) == 0 {
		h.Jump = r.IntN(3)
	}
	for i := range h.Barre {
		if r.IntN(4) == 0 {
			h.Barre[i] = !h.Barre[i]
		}
	}
	if hand.Check(h) != api.OK {
		panic("no valid hand")
	}
	return h
}

// verdicts returns tasks that are small enough to try everything, with their settings.
var verdicts = sync.OnceValues(tryAll)

func tryAll() (tasks []task, settings []api.Setting) {
	r := rand.New(rand.NewPCG(1, 2))
	names := instrument.Names()
	for len(tasks) < 3000 {
		k := task{in: anyInstrument(r), h: anyHand(r), shift: r.IntN(3) - 1}
		low := 58 + r.IntN(3)
		k.parts = anyParts(r, r.IntN(7), 6, low, low+2+r.IntN(7))
		if len(tasks)%10 == 0 {
			k.in, _ = instrument.Standard(names[r.IntN(len(names))])
			k.h = []api.Hand{hand.Standard(), k.h}[r.IntN(2)]
			k.parts = anyParts(r, 3, 4, 40, 75)
		}
		tasks, settings = append(tasks, k), append(settings, k.written())
	}
	return tasks, settings
}

// wants compares what a call has returned without an error with the right result.
func wants[T comparable](t *testing.T, call string, got T, e api.Errno, want T) {
	t.Helper()
	if e != api.OK || got != want {
		t.Errorf("%s = %v, %d; it should be %v", call, got, e, want)
	}
}
