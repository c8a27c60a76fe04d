package piece

import (
	"iter"

	"theorbo/api"
)

// Measure is a stretch of events.
type Measure struct {
	First, Events, Ticks int
}

// timed is an event of a piece with its number, the sign in force and its times.
type timed struct {
	number   int
	event    api.Event
	sign     api.Sign
	from, to int
}

// withTimes goes through the events of a valid piece with their times.
func withTimes(p api.Piece) iter.Seq[timed] {
	return func(yield func(timed) bool) {
		var sign api.Sign
		from := 0
		for number, ev := range p.Events {
			if written(ev.Sign) {
				sign = ev.Sign
			}
			to := from + Ticks(sign)
			if !yield(timed{number, ev, sign, from, to}) {
				return
			}
			from = to
		}
	}
}

// Onsets returns when each event begins, and the end.
func Onsets(p api.Piece) ([]int, api.Errno) {
	if e := Check(p); e != api.OK {
		return nil, e
	}
	onsets := []int{0}
	for t := range withTimes(p) {
		onsets = append(onsets, t.to)
	}
	return onsets, api.OK
}

// Measures returns the measures.
func Measures(p api.Piece) ([]Measure, api.Errno) {
	if e := Check(p); e != api.OK {
		return nil, e
	}
	var measures []Measure
	for t := range withTimes(p) {
		if t.number == 0 || t.event.Bar {
			measures = append(measures, Measure{First: t.number})
		}
		last := &measures[len(measures)-1]
		last.Events++
		last.Ticks += t.to - t.from
	}
	return measures, api.OK
}
