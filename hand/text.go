package hand

import (
	"slices"
	"strconv"
	"strings"

	"theorbo/api"
	"theorbo/ints"
)

// Write returns grips as text.
func Write(l []api.Grip) (string, api.Errno) {
	if len(l) > api.MaxEvents {
		return "", api.ErrMany
	}
	var text strings.Builder
	for _, g := range l {
		if !writable(g) {
			return "", api.ErrGrip
		}
		text.WriteString(strconv.Itoa(g.Pos))
		for _, finger := range g.Fingers {
			text.WriteString(" " + strconv.Itoa(finger))
		}
		text.WriteString("\n")
	}
	return text.String(), api.OK
}

func writable(g api.Grip) bool {
	if !ints.Within(g.Pos, 1, api.MaxFrets) || len(g.Fingers) > api.MaxCourses {
		return false
	}
	return !slices.ContainsFunc(g.Fingers, func(finger int) bool { return !ints.Within(finger, 1, api.MaxFingers) })
}

// Read is the inverse of Write.
func Read(s string) ([]api.Grip, api.Errno) {
	if len(s) > api.MaxText {
		return nil, api.ErrMany
	}
	lines := slices.Collect(strings.Lines(s))
	if len(lines) > api.MaxEvents {
		return nil, api.ErrMany
	}
	var grips []api.Grip
	for _, line := range lines {
		g, ok := readGrip(strings.TrimSuffix(line, "\n"))
		if !ok {
			return nil, api.ErrForm
		}
		grips = append(grips, g)
	}
	// A grip that is not valid, a number in another form or a missing line feed would be written otherwise.
	if t, _ := Write(grips); t != s {
		return nil, api.ErrForm
	}
	return grips, api.OK
}

// readGrip reads the numbers of a line.
func readGrip(line string) (api.Grip, bool) {
	var numbers []int
	for word := range strings.SplitSeq(line, " ") {
		n, err := strconv.Atoi(word)
		if err != nil {
			return api.Grip{}, false
		}
		numbers = append(numbers, n)
	}
	return api.Grip{Pos: numbers[0], Fingers: numbers[1:]}, true
}
