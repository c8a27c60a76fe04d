package voice_test

import (
	"fmt"
	"math/rand/v2"
	"slices"
	"strings"
	"testing"

	"theorbo/api"
	"theorbo/voice"
)

// shownMeetings writes meetings as time:interval:motion.
func shownMeetings(l []api.Meeting) string {
	var all []string
	for _, m := range l {
		all = append(all, fmt.Sprintf("%d:%d:%d", m.Time, m.Interval, m.Motion))
	}
	return strings.Join(all, " ")
}

// shownFaults writes faults as upper, lower, time and class.
func shownFaults(l []api.Fault) string {
	var all []string
	for _, f := range l {
		all = append(all, fmt.Sprint(f.Upper, f.Lower, f.Time, f.Class))
	}
	return strings.Join(all, ", ")
}

// P7.5: the examples, and each motion.
func TestMeetings(t *testing.T) {
	for _, c := range []struct{ upper, lower, want string }{
		{"67 0 96, 69 96 192", "43 0 192", "0:24:0 96:26:1"},
		{"43 0 192", "67 0 96, 69 96 192", "0:-24:0 96:-26:1"},
		{"", "", ""},
		{"67 0 96", "", ""},
		{"67 0 96", "60 96 192", ""},
		{"67 0 96", "60 95 192", "95:7:0"},
		{"67 0 96", "60 0 96", "0:7:0"},
		{"67 0 5, 67 5 10", "60 0 5, 60 5 10", "0:7:0 5:7:5"},
		{"67 0 5, 67 5 10", "60 0 10", "0:7:0 5:7:5"},
		{"67 0 5, 67 5 10", "60 0 5, 62 5 10", "0:7:0 5:5:1"},
		{"67 0 5, 66 5 10", "60 0 5, 60 5 10", "0:7:0 5:6:1"},
		{"67 0 5, 66 5 10", "60 0 5, 61 5 10", "0:7:0 5:5:2"},
		{"67 0 5, 70 5 10", "60 0 5, 55 5 10", "0:7:0 5:15:2"},
		{"67 0 5, 68 5 10", "60 0 5, 62 5 10", "0:7:0 5:6:3"},
		{"67 0 5, 60 5 10", "60 0 5, 59 5 10", "0:7:0 5:1:3"},
		{"67 0 5, 69 5 10", "60 0 5, 62 5 10", "0:7:0 5:7:4"},
		{"67 0 5, 60 5 10", "60 0 5, 53 5 10", "0:7:0 5:7:4"},
		// The meeting before may be long ago, and where one part pauses there is none.
		{"67 0 5, 99 7 8, 69 50 60", "60 0 5, 40 8 9, 62 50 60", "0:7:0 50:7:4"},
		{"67 0 5, 68 5 9", "60 2 3, 61 6 7", "2:7:0 6:7:4"},
		{"67 0 5, 68 5 9, 70 9 12", "60 0 20", "0:7:0 5:8:1 9:10:1"},
		// The tone that has ended does not sound, the one that begins does.
		{"67 0 5", "60 0 4, 61 4 6", "0:7:0 4:6:1"},
		{"67 0 5", "60 0 4, 61 5 6", "0:7:0"},
	} {
		got, e := voice.Meetings(part(c.upper), part(c.lower))
		wants(t, fmt.Sprintf("Meetings(%s; %s)", c.upper, c.lower), shownMeetings(got), e, c.want)
	}
	good, bad, over := part("67 0 96"), part("67 0 0"), evenly(401, 60, 10)
	for i, c := range []struct {
		upper, lower []api.Tone
		want         api.Errno
	}{
		{good, bad, api.ErrPart}, {bad, good, api.ErrPart}, {good, over, api.ErrMany}, {over, good, api.ErrMany},
		{bad, over, api.ErrPart}, {over, bad, api.ErrMany},
	} {
		if l, e := voice.Meetings(c.upper, c.lower); e != c.want || len(l) > 0 {
			t.Errorf("Meetings, %d: %v, %d; it should be %d", i, l, e, c.want)
		}
	}
}

// anyPart returns a valid part.
func anyPart(r *rand.Rand, most int) []api.Tone {
	var p []api.Tone
	time := r.IntN(5)
	for range r.IntN(most + 1) {
		to := time + 1 + r.IntN(6)
		p = append(p, api.Tone{Pitch: 60 + r.IntN(14), From: time, To: to})
		time = to
		if r.IntN(3) == 0 {
			time += r.IntN(6)
		}
	}
	return p
}

// companion returns a part that often moves like another one.
func companion(r *rand.Rand, p []api.Tone) []api.Tone {
	below := []int{0, 4, 7, 12}[r.IntN(4)]
	p = slices.Clone(p)
	for i := range p {
		p[i].Pitch -= below
		if r.IntN(4) == 0 {
			p[i].Pitch -= r.IntN(5)
		}
	}
	return p
}

// soundsAt returns the pitch of a part at a time, -1 for none.
func soundsAt(p []api.Tone, time int) int {
	for _, tone := range p {
		if tone.From <= time && time < tone.To {
			return tone.Pitch
		}
	}
	return -1
}

func beginsAt(p []api.Tone, time int) bool {
	return slices.ContainsFunc(p, func(tone api.Tone) bool { return tone.From == time })
}

// meetings looks at each time of two parts.
func meetings(upper, lower []api.Tone) []api.Meeting {
	var l []api.Meeting
	highBefore, lowBefore := 0, 0
	for time := range 500 {
		high, low := soundsAt(upper, time), soundsAt(lower, time)
		if !beginsAt(upper, time) && !beginsAt(lower, time) || high < 0 || low < 0 {
			continue
		}
		m := api.Meeting{Time: time, Interval: high - low}
		if up, down := high-highBefore, low-lowBefore; len(l) > 0 {
			switch {
			case up == 0 && down == 0:
				m.Motion = 5
			case up == 0 || down == 0:
				m.Motion = 1
			case up*down < 0:
				m.Motion = 2
			case up == down:
				m.Motion = 4
			default:
				m.Motion = 3
			}
		}
		highBefore, lowBefore = high, low
		l = append(l, m)
	}
	return l
}

// P7.5: any parts, looked at time by time.
func TestMeetingsOfAny(t *testing.T) {
	r := rand.New(rand.NewPCG(9, 10))
	motions := map[int]int{}
	for range 3000 {
		upper, lower := anyPart(r, 12), anyPart(r, 12)
		if r.IntN(3) == 0 {
			lower = companion(r, upper)
		}
		want := meetings(upper, lower)
		got, e := voice.Meetings(upper, lower)
		if e != api.OK || !slices.Equal(got, want) {
			t.Fatalf("Meetings of %v, %v = %v, %d; it should be %v", upper, lower, got, e, want)
		}
		for _, m := range got {
			motions[m.Motion]++
		}
	}
	for motion := range 6 {
		if motions[motion] < 300 {
			t.Errorf("only few meetings of a motion: %v", motions)
		}
	}
}

// P7.5: the example, and which meetings are parallels.
func TestParallels(t *testing.T) {
	for text, want := range map[string]string{
		"67 0 96, 69 96 192; 60 0 96, 62 96 192": "1 2 96 7",
		"60 0 96, 62 96 192; 67 0 96, 69 96 192": "1 2 96 7",
		"60 0 5, 62 5 9; 60 0 5, 62 5 9":         "1 2 5 0",
		"72 0 5, 74 5 9; 60 0 5, 62 5 9":         "1 2 5 0",
		"84 0 5, 79 5 9; 60 0 5, 55 5 9":         "1 2 5 0",
		// Similar motion from an octave to a unison, from a fifth to a twelfth, from a fifth to one below.
		"72 0 5, 74 5 9; 60 0 5, 74 5 9": "1 2 5 0",
		"67 0 5, 81 5 9; 60 0 5, 62 5 9": "1 2 5 7",
		"67 0 5, 68 5 9; 60 0 5, 75 5 9": "1 2 5 7",
		// A fifth below and a fourth, a fourth below and a fifth: the classes differ.
		"60 0 5, 62 5 9; 67 0 5, 67 5 9": "",
		"60 0 5, 67 5 9; 65 0 5, 74 5 9": "",
		"60 0 5, 62 5 9; 65 0 5, 67 5 9": "",
		// Thirds, contrary motion, oblique motion, still ones.
		"64 0 5, 65 5 9; 60 0 5, 61 5 9": "",
		"67 0 5, 72 5 9; 60 0 5, 53 5 9": "",
		"60 0 5, 72 5 9; 60 0 5, 48 5 9": "",
		"60 0 5, 72 5 9; 60 0 9":         "",
		"60 0 5, 60 5 9; 60 0 9":         "",
		// A fifth between two others of another class.
		"67 0 5, 69 5 9, 71 9 12; 60 0 5, 61 5 9, 64 9 12": "",
		// Several pairs, in order, and the times within a pair.
		"72 0 5, 74 5 9, 76 9 12; 67 0 5, 69 5 9, 70 9 12; 60 0 5, 62 5 9, 64 9 12": "1 3 5 0, 1 3 9 0, 2 3 5 7",
		"67 0 5, 69 5 9; ; 60 0 5, 62 5 9; 53 0 5, 55 5 9":                          "1 3 5 7, 3 4 5 7",
		// The meeting before may be long ago.
		"67 0 5, 69 50 60; 60 0 5, 62 50 60": "1 2 50 7",
		"":                                   "",
		"67 0 5":                             "",
	} {
		got, e := voice.Parallels(parts(text))
		wants(t, "Parallels of "+text, shownFaults(got), e, want)
	}
	for text, want := range map[string]api.Errno{"128 0 96": api.ErrPart, "60 0 1; 60 5 5": api.ErrPart, "128 0 96;;;;;;": api.ErrMany} {
		if got, e := voice.Parallels(parts(text)); e != want || len(got) > 0 {
			t.Errorf("Parallels of %s = %v, %d", text, got, e)
		}
	}
}

// P7.5: the parallels of any parts, by their meetings.
func TestParallelsOfAny(t *testing.T) {
	r := rand.New(rand.NewPCG(11, 12))
	classes := map[int]int{}
	for range 3000 {
		var l [][]api.Tone
		for range r.IntN(7) {
			l = append(l, anyPart(r, 14))
		}
		for i := 1; i < len(l); i += 2 {
			l[i] = companion(r, l[i-1])
		}
		var want []api.Fault
		for i := range l {
			for j := i + 1; j < len(l); j++ {
				all := meetings(l[i], l[j])
				for k, m := range all {
					class := distance(m.Interval, 0) % 12
					if k > 0 && (m.Motion == 3 || m.Motion == 4) && (class == 0 || class == 7) && distance(all[k-1].Interval, 0)%12 == class {
						want = append(want, api.Fault{Upper: i + 1, Lower: j + 1, Time: m.Time, Class: class})
						classes[class]++
					}
				}
			}
		}
		if got, e := voice.Parallels(l); e != api.OK || !slices.Equal(got, want) {
			t.Fatalf("Parallels of %v = %v, %d; it should be %v", l, got, e, want)
		}
	}
	if classes[0] < 200 || classes[7] < 200 {
		t.Errorf("only %v parallels", classes)
	}
}
