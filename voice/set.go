package voice

import (
	"theorbo/api"
	"theorbo/ints"
	"theorbo/piece"
)

// rest stands for the pitch of a rest.
const rest = -1

// scribe writes elements one behind the other, up to the time that it has reached.
type scribe struct {
	time    int
	written []api.Written
	e       api.Errno
}

// write writes a pitch, or a rest, up to a time.
func (s *scribe) write(pitch, to int) {
	signs, e := piece.Signs(to - s.time)
	if e != api.OK {
		s.e = api.ErrTime
	}
	for i, sign := range signs {
		tied := pitch != rest && i < len(signs)-1
		s.written = append(s.written, api.Written{Pitch: pitch, Sign: sign, Tied: tied})
	}
	s.time = to
}

// Set writes a part as notes and rests with rhythm signs.
func Set(part []api.Tone, end int) ([]api.Written, api.Errno) {
	if e := checkPart(part); e != api.OK {
		return nil, e
	}
	last := 0
	if len(part) > 0 {
		last = part[len(part)-1].To
	}
	if !ints.Within(end, last, api.MaxTime) {
		return nil, api.ErrArg
	}
	var s scribe
	for _, t := range part {
		s.write(rest, t.From)
		s.write(t.Pitch, t.To)
	}
	s.write(rest, end)
	if s.e != api.OK {
		return nil, s.e
	}
	return s.written, api.OK
}

// Unset is the inverse of Set.
func Unset(l []api.Written) (part []api.Tone, end int, e api.Errno) {
	from := 0
	for i, w := range l {
		if e := checkWritten(l, i); e != api.OK {
			return nil, 0, e
		}
		end += piece.Ticks(w.Sign)
		ends := w.Pitch != rest && !w.Tied
		if end > api.MaxTime || ends && len(part) == api.MaxTones {
			return nil, 0, api.ErrMany
		}
		if ends {
			part = append(part, api.Tone{Pitch: w.Pitch, From: from, To: end})
		}
		if !w.Tied {
			from = end
		}
	}
	return part, end, api.OK
}

// checkWritten looks at an element by itself and at what it is tied to.
func checkWritten(l []api.Written, number int) api.Errno {
	w := l[number]
	switch {
	case !ints.Within(w.Pitch, rest, api.MaxPitch):
		return api.ErrPart
	case piece.Ticks(w.Sign) == 0:
		return api.ErrTime
	case w.Tied && (w.Pitch == rest || number == len(l)-1 || l[number+1].Pitch != w.Pitch):
		return api.ErrTie
	}
	return api.OK
}
