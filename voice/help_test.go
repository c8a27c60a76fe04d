package voice_test

import (
	"fmt"
	"math"
	"math/rand/v2"
	"slices"
	"strconv"
	"strings"
	"sync"
	"testing"

	"theorbo/api"
	"theorbo/voice"
)

// hostile are arguments that no range allows, and the ends of common ranges.
var hostile = []int{math.MinInt, math.MinInt + 1, -1 << 62, -2, -1, 0, 1, 2, 5, 6, 10, 11, 14, 15, 64, 65, 127, 128, 399, 400, 262144, 262145, 1 << 62, math.MaxInt - 1, math.MaxInt}

// numbers reads numbers that are separated by spaces.
func numbers(t string) []int {
	var l []int
	for _, w := range strings.Fields(t) {
		n, err := strconv.Atoi(w)
		if err != nil {
			panic(err)
		}
		l = append(l, n)
	}
	return l
}

// rows reads lists of numbers that are separated by commas; the empty text has none.
func rows(t string) [][]int {
	var l [][]int
	if strings.TrimSpace(t) == "" {
		return nil
	}
	for part := range strings.SplitSeq(t, ",") {
		l = append(l, numbers(part))
	}
	return l
}

// notes makes notes of event, course, pitch, from and to: `0 1 67 0 96, 0 6 43 0 192`.
func notes(t string) []api.Note {
	var l []api.Note
	for _, n := range rows(t) {
		l = append(l, api.Note{Event: n[0], Course: n[1], Pitch: n[2], From: n[3], To: n[4]})
	}
	return l
}

// part makes a part of pitch, from and to: `67 0 96, 69 96 192`.
func part(t string) []api.Tone {
	var l []api.Tone
	for _, n := range rows(t) {
		l = append(l, api.Tone{Pitch: n[0], From: n[1], To: n[2]})
	}
	return l
}

// parts makes parts that are separated by semicolons.
func parts(t string) [][]api.Tone {
	var l [][]api.Tone
	for p := range strings.SplitSeq(t, ";") {
		l = append(l, part(p))
	}
	return l
}

// shownParts is the inverse of parts.
func shownParts(l [][]api.Tone) string {
	var all []string
	for _, p := range l {
		all = append(all, shownPart(p))
	}
	return strings.Join(all, "; ")
}

func shownPart(l []api.Tone) string {
	var all []string
	for _, t := range l {
		all = append(all, fmt.Sprint(t.Pitch, t.From, t.To))
	}
	return strings.Join(all, ", ")
}

// limits makes limits of the numbers Leap, Gap and Cross, and of Low and High.
func limits(other, low, high string) api.Limits {
	n := numbers(other)
	return api.Limits{Low: numbers(low), High: numbers(high), Leap: n[0], Gap: n[1], Cross: n[2]}
}

// The notes and limits of the chapter's examples.
func examples() (n []api.Note, l, m api.Limits) {
	return notes("0 1 67 0 96, 0 6 43 0 192, 1 1 69 96 192"), limits("5 0 0", "60 40", "80 60"), limits("127 0 1", "40 40", "80 80")
}

// shownVoicings writes assignments as the chapter does: `1 2 1 (0, 2); ..`.
func shownVoicings(l []api.Voicing) string {
	var all []string
	for _, v := range l {
		all = append(all, fmt.Sprintf("%s (%d, %d)", strings.Trim(fmt.Sprint(v.Voices), "[]"), v.Crossings, v.Motion))
	}
	return strings.Join(all, "; ")
}

func sameVoicing(a, b api.Voicing) bool {
	return slices.Equal(a.Voices, b.Voices) && a.Crossings == b.Crossings && a.Motion == b.Motion
}

// What follows is the document, condition by condition, without a thought of how long it takes.

// lastOf returns the last note of a voice at an event, -1 for none.
func lastOf(n []api.Note, voices []int, voice, event int) int {
	for i := len(voices) - 1; i >= 0; i-- {
		if n[i].Event < event && voices[i] == voice {
			return i
		}
	}
	return -1
}

// soundingAt returns the note with which a voice sounds at an event that begins at some time, -1 for none.
func soundingAt(n []api.Note, voices []int, voice, event, from int) int {
	for i := range voices {
		if n[i].Event == event && voices[i] == voice {
			return i
		}
	}
	if i := lastOf(n, voices, voice, event); i >= 0 && n[i].To > from {
		return i
	}
	return -1
}

func crossingsOf(l api.Limits, n []api.Note, voices []int, event, from int) int {
	count := 0
	for b := 1; b <= len(l.Low); b++ {
		for a := 1; a < b; a++ {
			i, j := soundingAt(n, voices, a, event, from), soundingAt(n, voices, b, event, from)
			if i >= 0 && j >= 0 && n[i].Pitch < n[j].Pitch {
				count++
			}
		}
	}
	return count
}

func distance(a, b int) int {
	if a < b {
		return b - a
	}
	return a - b
}

// moves tells of a note whether it moves, and how far.
func moves(l api.Limits, n []api.Note, voices []int, i int) (motion int, does bool) {
	last := lastOf(n, voices[:i], voices[i], n[i].Event)
	if last < 0 || n[i].From > n[last].To+l.Gap {
		return 0, false
	}
	return distance(n[i].Pitch, n[last].Pitch), true
}

// allows tells of a note whether it breaks none of the rules 1 to 3.
func allows(l api.Limits, n []api.Note, voices []int, i int) bool {
	v := voices[i]
	if v < 1 || v > len(l.Low) || n[i].Pitch < l.Low[v-1] || n[i].Pitch > l.High[v-1] {
		return false
	}
	for j := range i {
		if n[j].Event == n[i].Event && voices[j] == v {
			return false
		}
	}
	motion, does := moves(l, n, voices, i)
	return !does || motion <= l.Leap
}

// judge returns an assignment of the first notes with its numbers, or the note at which it is not valid.
func judge(l api.Limits, n []api.Note, voices []int) (v api.Voicing, at int, valid bool) {
	v.Voices = voices
	for i := range voices {
		if !allows(l, n, voices, i) {
			return api.Voicing{}, i, false
		}
		motion, _ := moves(l, n, voices, i)
		v.Motion += motion
		if i == len(n)-1 || n[i+1].Event != n[i].Event {
			crossings := crossingsOf(l, n, voices[:i+1], n[i].Event, n[i].From)
			if crossings > l.Cross {
				return api.Voicing{}, i, false
			}
			v.Crossings += crossings
		}
	}
	return v, 0, true
}

// eventsOf returns for each event how many notes there are up to it.
func eventsOf(n []api.Note) []int {
	var l []int
	for i := range n {
		if i == len(n)-1 || n[i+1].Event != n[i].Event {
			l = append(l, i+1)
		}
	}
	return l
}

// found returns the situation behind some notes of a list, as a text.
func found(l api.Limits, n []api.Note, voices []int) string {
	next := n[len(voices)]
	t := ""
	for v := 1; v <= len(l.Low); v++ {
		last := lastOf(n, voices, v, next.Event)
		if last >= 0 && next.From > n[last].To+l.Gap {
			last = -1
		}
		t += fmt.Sprint(" ", last)
	}
	return t
}

// verdict is what the functions that look for assignments are to find: the valid ones in order, or an error with its event.
type verdict struct {
	all   []api.Voicing
	event int
	e     api.Errno
	most  int // the greatest number of situations
}

// decide tries all assignments, event by event. It gives up, and reports so, if there are too many.
func decide(l api.Limits, n []api.Note) (d verdict, done bool) {
	all := [][]int{nil}
	start := 0
	for _, behind := range eventsOf(n) {
		for range behind - start {
			var longer [][]int
			for _, voices := range all {
				for v := range l.Low {
					longer = append(longer, append(slices.Clone(voices), v+1))
				}
			}
			all = slices.DeleteFunc(longer, func(voices []int) bool { return !allows(l, n, voices, len(voices)-1) })
		}
		start = behind
		all = slices.DeleteFunc(all, func(voices []int) bool {
			_, _, valid := judge(l, n[:behind], voices)
			return !valid
		})
		if len(all) == 0 {
			return verdict{event: n[behind-1].Event, e: api.ErrNoVoices, most: d.most}, true
		}
		if behind < len(n) {
			situations := map[string]bool{}
			for _, voices := range all {
				situations[found(l, n, voices)] = true
			}
			d.most = max(d.most, len(situations))
			if len(situations) > api.MaxStates {
				return verdict{event: n[behind-1].Event, e: api.ErrMany, most: d.most}, true
			}
		}
		if len(all) > 4000 {
			return verdict{}, false
		}
	}
	for _, voices := range all {
		v, _, _ := judge(l, n, voices)
		d.all = append(d.all, v)
	}
	slices.SortFunc(d.all, compareVoicings)
	return d, true
}

// compareVoicings orders assignments as the document does.
func compareVoicings(a, b api.Voicing) int {
	if a.Crossings != b.Crossings {
		return a.Crossings - b.Crossings
	}
	if a.Motion != b.Motion {
		return a.Motion - b.Motion
	}
	return slices.Compare(a.Voices, b.Voices)
}

// task is what may be assigned, under which limits.
type task struct {
	l api.Limits
	n []api.Note
}

func (k task) String() string {
	return fmt.Sprintf("%v, %v", k.l, k.n)
}

// anyLimits returns valid limits whose pitches are near to each other.
func anyLimits(r *rand.Rand) api.Limits {
	l := api.Limits{Leap: r.IntN(8), Gap: r.IntN(12), Cross: r.IntN(3)}
	switch r.IntN(8) {
	case 0:
		l.Leap = api.MaxPitch
	case 1:
		l.Gap = api.MaxTime
	case 2:
		l.Cross = api.MaxCross
	}
	for range 1 + r.IntN(api.MaxVoices) {
		low := 60 + r.IntN(6)
		if r.IntN(3) == 0 {
			low = 60
		}
		l.Low, l.High = append(l.Low, low), append(l.High, low+2+r.IntN(8))
	}
	if voice.Check(l) != api.OK {
		panic("no valid limits")
	}
	return l
}

// anyNotes returns a valid list of notes, none of whose events has more notes than most.
func anyNotes(r *rand.Rand, events, most int) []api.Note {
	var n []api.Note
	event, from := r.IntN(3), r.IntN(4)
	for range events {
		course := 0
		for range 1 + r.IntN(most) {
			course += 1 + r.IntN(2)
			to := from + 1 + r.IntN(10)
			if r.IntN(12) == 0 {
				to += r.IntN(40)
			}
			n = append(n, api.Note{Event: event, Course: course, Pitch: 60 + r.IntN(12), From: from, To: to})
		}
		event, from = event+1+r.IntN(2), from+1+r.IntN(8)
	}
	if voice.CheckNotes(n) != api.OK {
		panic("no valid notes")
	}
	return n
}

// verdicts returns tasks that are small enough to try everything, with what is to be found.
var verdicts = sync.OnceValues(tryAll)

func tryAll() (tasks []task, all []verdict) {
	r := rand.New(rand.NewPCG(1, 2))
	n, l, m := examples()
	for _, k := range []task{{l, n}, {m, n}, {l, nil}} {
		d, _ := decide(k.l, k.n)
		tasks, all = append(tasks, k), append(all, d)
	}
	for len(tasks) < 2500 {
		k := task{anyLimits(r), anyNotes(r, r.IntN(8), 1+r.IntN(4))}
		if len(tasks)%50 == 0 {
			k = task{limits("127 262144 10", "0 0 0 0 0", "127 127 127 127 127"), anyNotes(r, 5+r.IntN(2), 1)}
		}
		if d, done := decide(k.l, k.n); done && (d.e != api.ErrNoVoices || r.IntN(4) == 0) {
			tasks, all = append(tasks, k), append(all, d)
		}
	}
	return tasks, all
}

// wants compares what a call has returned without an error with the right result.
func wants[T comparable](t *testing.T, call string, got T, e api.Errno, want T) {
	t.Helper()
	if e != api.OK || got != want {
		t.Errorf("%s = %v, %d; it should be %v", call, got, e, want)
	}
}
