package consort

import (
	"theorbo/api"
	"theorbo/intabulate"
	"theorbo/ints"
	"theorbo/lists"
	"theorbo/voice"
)

// Make intabulates the parts of each desk.
func Make(parts [][]api.Tone, desks []api.Desk) (c api.Consort, settings []api.Setting, e api.Errno) {
	if e := voice.CheckParts(parts); e != api.OK {
		return api.Consort{}, nil, e
	}
	if e := checkDesks(desks, len(parts)); e != api.OK {
		return api.Consort{}, nil, e
	}
	for _, d := range desks {
		own := lists.Changed(d.Parts, func(part int) []api.Tone { return parts[part] })
		s, e := intabulate.Intabulate(own, d.Instrument, d.Hand, d.Shift)
		if e != api.OK {
			return api.Consort{}, nil, e
		}
		settings = append(settings, s)
	}
	c, e = Pad(lists.Changed(settings, func(s api.Setting) api.Piece { return s.Piece }))
	if e != api.OK {
		return api.Consort{}, nil, e
	}
	return c, settings, api.OK
}

// checkDesks looks at how many desks there are, and which of the parts they play.
func checkDesks(desks []api.Desk, parts int) api.Errno {
	if e := checkCount(len(desks)); e != api.OK {
		return e
	}
	for _, d := range desks {
		least := 0
		for _, part := range d.Parts {
			if !ints.Within(part, least, parts-1) {
				return api.ErrDesk
			}
			least = part + 1
		}
	}
	return api.OK
}
