package convey

import (
	"slices"
	"strconv"
	"strings"

	"theorbo/api"
)

const (
	lineEnd = "\n"
	space   = " "
)

// whats are the words for what is lost, from LackNote on.
var whats = [...]string{"note", "right", "grace", "hold", "three", "sign", "tie", "rest"}

// Report returns losses as text.
func Report(l []api.Lack) (string, api.Errno) {
	var text strings.Builder
	for _, lack := range l {
		if !reportable(lack) {
			return "", api.ErrArg
		}
		text.WriteString(strconv.Itoa(lack.Event) + space + strconv.Itoa(lack.Course) + space + whats[lack.What-api.LackNote] + lineEnd)
	}
	return text.String(), api.OK
}

func reportable(l api.Lack) bool {
	return l.Event >= 0 && l.Event < api.MaxEvents &&
		l.Course >= 0 && l.Course <= api.MaxCourses &&
		l.What >= api.LackNote && l.What <= api.LackRest
}

// ParseReport reads losses from text.
func ParseReport(t string) ([]api.Lack, api.Errno) {
	var l []api.Lack
	for line := range strings.Lines(t) {
		l = append(l, parseLack(strings.TrimSuffix(line, lineEnd)))
	}
	// A text that is not written like this is not a report.
	if written, e := Report(l); e != api.OK || written != t {
		return nil, api.ErrForm
	}
	return l, api.OK
}

// parseLack reads a line. What it makes of a malformed one is written otherwise, or not at all.
func parseLack(line string) api.Lack {
	words := strings.Split(line, space)
	if len(words) != 3 {
		return api.Lack{}
	}
	event, _ := strconv.Atoi(words[0])
	course, _ := strconv.Atoi(words[1])
	return api.Lack{Event: event, Course: course, What: slices.Index(whats[:], words[2]) + api.LackNote}
}
