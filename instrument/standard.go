package instrument

import "theorbo/api"

// standard is a standard instrument, written as Format writes it.
type standard struct {
	name, text string
}

var standards = [...]standard{
	{"lute6", "G4/8 D4/8 A3/8 F3/8+ C3/8+ G2/8+ : 1 2 3 4 5 6 7 8"},
	{"lute7", "G4/8 D4/8 A3/8 F3/8+ C3/8+ G2/8+ D2/8+ : 1 2 3 4 5 6 7 8"},
	{"lute10", "G4/8 D4/8 A3/8 F3/8 C3/8+ G2/8+ F2/8+ Eb2/8+ D2/8+ C2/8+ : 1 2 3 4 5 6 7 8"},
	{"baroque13", "F4/9 D4/9 A3/9 F3/9 D3/9 A2/9+ G2/9+ F2/9+ E2/0+ D2/0+ C2/0+ B1/0+ A1/0+ : 1 2 3 4 5 6 7 8 9"},
	{"theorbo14", "A3/8 E3/8 B3/8 G3/8 D3/8 A2/8 G2/0 F2/0 E2/0 D2/0 C2/0 B1/0 A1/0 G1/0 : 1 2 3 4 5 6 7 8"},
	{"vihuela6", "G4/10 D4/10 A3/10 F3/10 C3/10 G2/10 : 1 2 3 4 5 6 7 8 9 10"},
	{"guitar4", "A4/8 E4/8 C4/8 G3/8+ : 1 2 3 4 5 6 7 8"},
	{"guitar5", "E4/8 B3/8 G3/8 D4/8 A3/8 : 1 2 3 4 5 6 7 8"},
	{"cittern4", "E4/9 D4/9 G3/9 B3/9 : 2 3 4 5 7 9 10 11 12"},
}

// Standard returns a standard instrument.
func Standard(name string) (api.Instrument, api.Errno) {
	for _, s := range standards {
		if s.name == name {
			return Parse(s.text)
		}
	}
	return api.Instrument{}, api.ErrNone
}

// Names returns the names of the standard instruments.
func Names() []string {
	var names []string
	for _, s := range standards {
		names = append(names, s.name)
	}
	return names
}
