package notation

import (
	"strconv"
	"strings"

	"theorbo/api"
)

const (
	frenchFrets = "abcdefghiklmnopqrst"
	frenchSlash = "/"
	frenchOpen  = "4567" // the courses from frenchLow on
	frenchLow   = 11
)

type french struct{ topDown }

func (french) name() string { return "french" }

func (french) letters() string { return frenchFrets + frenchSlash + frenchOpen }

func (french) symbol(pl api.Place) string {
	letter := at(frenchFrets, pl.Fret)
	switch {
	case pl.Course <= maxLines:
		return letter
	case pl.Course < frenchLow:
		return strings.Repeat(frenchSlash, pl.Course-maxLines-1) + letter
	case pl.Fret == 0:
		return at(frenchOpen, pl.Course-frenchLow)
	}
	return ""
}

func (french) rights() string { return "-.:'" }

func (french) graces() string { return "-,^#(" }

func (french) hold(length, longest int) string { return "_" + strconv.Itoa(length) }
