package voice

import (
	"cmp"
	"slices"

	"theorbo/api"
	"theorbo/ints"
)

// How two voices move from one meeting to the next.
const (
	first = iota
	oblique
	contrary
	similar
	parallel
	still
)

// The classes of the intervals that voices do not repeat in the same direction, and the octave, by which classes are counted.
const (
	unison = 0
	fifth  = 7
	octave = 12
)

// Meetings returns the intervals and motions between two parts.
func Meetings(upper, lower []api.Tone) ([]api.Meeting, api.Errno) {
	if e := cmp.Or(checkPart(upper), checkPart(lower)); e != api.OK {
		return nil, e
	}
	return meet(upper, lower), api.OK
}

// meet returns the meetings of two valid parts.
func meet(upper, lower []api.Tone) []api.Meeting {
	var meetings []api.Meeting
	var highBefore, lowBefore int
	for _, time := range beginnings(upper, lower) {
		high, highSounds := pitchAt(upper, time)
		low, lowSounds := pitchAt(lower, time)
		if !highSounds || !lowSounds {
			continue
		}
		m := api.Meeting{Time: time, Interval: high - low, Motion: first}
		if len(meetings) > 0 {
			m.Motion = motion(high-highBefore, low-lowBefore)
		}
		meetings = append(meetings, m)
		highBefore, lowBefore = high, low
	}
	return meetings
}

// beginnings returns the different times at which tones begin, in ascending order.
func beginnings(parts ...[]api.Tone) []int {
	var times []int
	for _, part := range parts {
		for _, t := range part {
			times = append(times, t.From)
		}
	}
	slices.Sort(times)
	return slices.Compact(times)
}

// pitchAt returns the pitch that a part has at a time, if it sounds then.
func pitchAt(part []api.Tone, time int) (pitch int, sounds bool) {
	i, _ := slices.BinarySearchFunc(part, time, func(t api.Tone, time int) int {
		if t.To <= time {
			return -1
		}
		return 1
	})
	if i == len(part) || part[i].From > time {
		return 0, false
	}
	return part[i].Pitch, true
}

// motion tells how two voices move that change their pitches by so much.
func motion(upper, lower int) int {
	switch {
	case upper == 0 && lower == 0:
		return still
	case upper == 0 || lower == 0:
		return oblique
	case upper == lower:
		return parallel
	case (upper > 0) == (lower > 0):
		return similar
	}
	return contrary
}

// Parallels returns the parallel unisons, octaves and fifths.
func Parallels(parts [][]api.Tone) ([]api.Fault, api.Errno) {
	if e := CheckParts(parts); e != api.OK {
		return nil, e
	}
	var faults []api.Fault
	for i, upper := range parts {
		for j := i + 1; j < len(parts); j++ {
			for _, m := range parallels(meet(upper, parts[j])) {
				faults = append(faults, api.Fault{Upper: i + 1, Lower: j + 1, Time: m.Time, Class: class(m)})
			}
		}
	}
	return faults, api.OK
}

// parallels returns those meetings to which two voices move in parallel.
func parallels(meetings []api.Meeting) []api.Meeting {
	var found []api.Meeting
	for i, m := range meetings {
		if m.Motion != similar && m.Motion != parallel {
			continue
		}
		if c := class(m); (c == unison || c == fifth) && c == class(meetings[i-1]) {
			found = append(found, m)
		}
	}
	return found
}

// class returns the interval of a meeting, without its direction and without octaves.
func class(m api.Meeting) int {
	return ints.Distance(m.Interval, 0) % octave
}
