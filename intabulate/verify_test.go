package intabulate_test

import (
	"cmp"
	"fmt"
	"math/rand/v2"
	"slices"
	"testing"

	"theorbo/api"
	"theorbo/hand"
	"theorbo/instrument"
	"theorbo/intabulate"
	"theorbo/piece"
	"theorbo/sound"
	"theorbo/voice"
)

// The document's conditions for a setting that plays what it declares, one by one.

// lossesOf returns the losses of a tone.
func lossesOf(s api.Setting, part, tone int) []api.Loss {
	return slices.DeleteFunc(slices.Clone(s.Losses), func(l api.Loss) bool { return l.Part != part || l.Tone != tone })
}

func hasLoss(s api.Setting, part, tone, kind int) bool {
	return slices.ContainsFunc(lossesOf(s, part, tone), func(l api.Loss) bool { return l.Kind == kind })
}

func inOrder(parts [][]api.Tone, s api.Setting) bool {
	for i, l := range s.Losses {
		if l.Part < 0 || l.Part >= len(parts) || l.Tone < 0 || l.Tone >= len(parts[l.Part]) || l.Kind < 1 || l.Kind > 3 {
			return false
		}
		if i > 0 {
			b := s.Losses[i-1]
			if l.Part < b.Part || l.Part == b.Part && l.Tone < b.Tone || l.Part == b.Part && l.Tone == b.Tone && l.Kind <= b.Kind {
				return false
			}
		}
	}
	return true
}

// noteAt returns the note that begins at a time at a place.
func noteAt(s api.Setting, from int, pl api.Place) (n api.Note, ok bool) {
	notes, _ := sound.Notes(s.Piece)
	for _, n := range notes {
		if n.From != from || n.Course != pl.Course {
			continue
		}
		for _, st := range s.Piece.Events[n.Event].Stops {
			if st.Course == pl.Course && st.Fret == pl.Fret {
				return n, true
			}
		}
	}
	return api.Note{}, false
}

// plays looks at the rules 2 to 4 for one tone.
func plays(parts [][]api.Tone, s api.Setting, i, j int) bool {
	tone, pl, losses := parts[i][j], s.Where[i][j], lossesOf(s, i, j)
	if hasLoss(s, i, j, api.Dropped) {
		return len(losses) == 1 && losses[0].Time == tone.From && pl == api.Place{}
	}
	if pitch, e := instrument.At(s.Piece.Instrument, pl); e != api.OK || pitch != tone.Pitch+s.Shift {
		return false
	}
	n, ok := noteAt(s, tone.From, pl)
	if !ok {
		return false
	}
	doubled := false
	for other := range i {
		for k, t := range parts[other] {
			doubled = doubled || !hasLoss(s, other, k, api.Dropped) && t.From == tone.From && s.Where[other][k] == pl
		}
	}
	if doubled != hasLoss(s, i, j, api.Doubled) {
		return false
	}
	end := n.To >= tone.To
	for _, l := range losses {
		switch l.Kind {
		case api.Doubled:
			if l.Time != tone.From {
				return false
			}
		case api.Cut:
			end = n.To == l.Time && l.Time < tone.To
		}
	}
	return end
}

// judged returns what Verify is to return.
func judged(parts [][]api.Tone, s api.Setting) api.Errno {
	if e := cmp.Or(voice.CheckParts(parts), piece.Check(s.Piece)); e != api.OK {
		return e
	}
	if s.Shift < -24 || s.Shift > 24 || len(s.Where) != len(parts) {
		return api.ErrArg
	}
	for i := range parts {
		if len(parts[i]) != len(s.Where[i]) {
			return api.ErrArg
		}
	}
	if !inOrder(parts, s) {
		return api.ErrLoss
	}
	for i := range parts {
		for j := range parts[i] {
			if !plays(parts, s, i, j) {
				return api.ErrLoss
			}
		}
	}
	onsets, _ := piece.Onsets(s.Piece)
	for number, ev := range s.Piece.Events {
		for _, st := range ev.Stops {
			some := false
			for i := range parts {
				for j, tone := range parts[i] {
					some = some || !hasLoss(s, i, j, api.Dropped) && tone.From == onsets[number] && s.Where[i][j] == (api.Place{Course: st.Course, Fret: st.Fret})
				}
			}
			if !some {
				return api.ErrLoss
			}
		}
	}
	return api.OK
}

// left returns the parts as they are played, of a setting that Verify accepts.
func left(parts [][]api.Tone, s api.Setting) [][]api.Tone {
	var all [][]api.Tone
	for i, p := range parts {
		all = append(all, nil)
		for j, tone := range p {
			tone.Pitch += s.Shift
			for _, l := range lossesOf(s, i, j) {
				if l.Kind == api.Cut {
					tone.To = l.Time
				}
			}
			if !hasLoss(s, i, j, api.Dropped) {
				all[i] = append(all[i], tone)
			}
		}
	}
	return all
}

// duet is a setting in which tones are dropped, doubled and cut.
func duet(t *testing.T) ([][]api.Tone, api.Setting) {
	t.Helper()
	k := task{parts("62 0 192; 62 0 96, 64 96 192; 55 0 48, 56 48 192; 30 0 96"), strung("C4/5 G3/5 : 1 2 3 4 5"), hand.Standard(), 0}
	s := k.must(t)
	want := "4 1.2_1 2.0; 4 2.1_1; 3 1.4 | 1.2; 1.2 1.4; 2.0 2.1; - | 0.0 cut 96, 1.0 doubled 0, 3.0 dropped 0"
	if shown(s) != want {
		t.Fatalf("the duet is %s; it should be %s", shown(s), want)
	}
	return k.parts, s
}

// P8.4: each rule that may be broken.
func TestVerify(t *testing.T) {
	voices, good := duet(t)
	if e := intabulate.Verify(voices, good); e != api.OK {
		t.Fatalf("Verify: %d", e)
	}
	cut, doubled, dropped := 0, 1, 2
	for name, c := range map[string]struct {
		change func(p [][]api.Tone, s *api.Setting)
		want   api.Errno
	}{
		"a mark":              {func(_ [][]api.Tone, s *api.Setting) { s.Piece.Events[0].Stops[0].Right = 1 }, api.OK},
		"a bar line":          {func(_ [][]api.Tone, s *api.Setting) { s.Piece.Events[1].Bar = true }, api.OK},
		"a sign in force":     {func(_ [][]api.Tone, s *api.Setting) { s.Piece.Events[1].Sign = api.Sign{} }, api.OK},
		"a tone that may end": {func(p [][]api.Tone, _ *api.Setting) { p[1][1].To = 144 }, api.OK},
		"rule 1, order": {func(_ [][]api.Tone, s *api.Setting) {
			s.Losses[cut], s.Losses[doubled] = s.Losses[doubled], s.Losses[cut]
		}, api.ErrLoss},
		"rule 1, twice":      {func(_ [][]api.Tone, s *api.Setting) { s.Losses = append(s.Losses, s.Losses[dropped]) }, api.ErrLoss},
		"rule 1, no part":    {func(_ [][]api.Tone, s *api.Setting) { s.Losses[dropped].Part = 4 }, api.ErrLoss},
		"rule 1, no part -1": {func(_ [][]api.Tone, s *api.Setting) { s.Losses[cut].Part = -1 }, api.ErrLoss},
		"rule 1, no tone":    {func(_ [][]api.Tone, s *api.Setting) { s.Losses[dropped].Tone = 1 }, api.ErrLoss},
		"rule 1, no tone -1": {func(_ [][]api.Tone, s *api.Setting) { s.Losses[dropped].Tone = -1 }, api.ErrLoss},
		"rule 1, kind 0":     {func(_ [][]api.Tone, s *api.Setting) { s.Losses[cut].Kind = 0 }, api.ErrLoss},
		"rule 1, kind 4":     {func(_ [][]api.Tone, s *api.Setting) { s.Losses[dropped].Kind = 4 }, api.ErrLoss},
		"rule 1, one more":   {func(_ [][]api.Tone, s *api.Setting) { s.Losses = append(s.Losses, api.Loss{Part: 3, Kind: 4}) }, api.ErrLoss},
		"rule 2, and cut": {func(_ [][]api.Tone, s *api.Setting) {
			s.Losses = append(s.Losses, api.Loss{Part: 3, Kind: api.Cut, Time: 48})
		}, api.ErrLoss},
		"rule 2, and doubled": {func(_ [][]api.Tone, s *api.Setting) {
			s.Losses = append(s.Losses, api.Loss{Part: 3, Kind: api.Doubled})
		}, api.ErrLoss},
		"rule 2, time":      {func(_ [][]api.Tone, s *api.Setting) { s.Losses[dropped].Time = 1 }, api.ErrLoss},
		"rule 2, place":     {func(_ [][]api.Tone, s *api.Setting) { s.Where[3][0] = api.Place{Course: 2} }, api.ErrLoss},
		"rule 2, fret":      {func(_ [][]api.Tone, s *api.Setting) { s.Where[3][0] = api.Place{Fret: 1} }, api.ErrLoss},
		"rule 3, no place":  {func(_ [][]api.Tone, s *api.Setting) { s.Where[2][1] = api.Place{} }, api.ErrLoss},
		"rule 3, not there": {func(_ [][]api.Tone, s *api.Setting) { s.Where[2][1] = api.Place{Course: 3} }, api.ErrLoss},
		"rule 3, pitch":     {func(p [][]api.Tone, _ *api.Setting) { p[2][1].Pitch++ }, api.ErrLoss},
		"rule 3, shift":     {func(_ [][]api.Tone, s *api.Setting) { s.Shift = 1 }, api.ErrLoss},
		"rule 3, both": {func(p [][]api.Tone, s *api.Setting) {
			s.Shift = 1
			for _, part := range p {
				for j := range part {
					part[j].Pitch--
				}
			}
		}, api.OK},
		"rule 3, no event":       {func(p [][]api.Tone, _ *api.Setting) { p[1][1].From = 97 }, api.ErrLoss},
		"rule 3, another event":  {func(p [][]api.Tone, _ *api.Setting) { p[2][0].To, p[2][1].From = 96, 96 }, api.ErrLoss},
		"rule 3, no stop":        {func(_ [][]api.Tone, s *api.Setting) { s.Piece.Events[2].Stops[0].Fret = 3 }, api.ErrLoss},
		"rule 3, no hold":        {func(_ [][]api.Tone, s *api.Setting) { s.Piece.Events[1].Stops[0].Hold = 0 }, api.ErrLoss},
		"rule 3, longer":         {func(p [][]api.Tone, _ *api.Setting) { p[1][1].To = 193 }, api.ErrLoss},
		"rule 3, cut earlier":    {func(_ [][]api.Tone, s *api.Setting) { s.Losses[cut].Time = 95 }, api.ErrLoss},
		"rule 3, cut later":      {func(_ [][]api.Tone, s *api.Setting) { s.Losses[cut].Time = 97 }, api.ErrLoss},
		"rule 3, cut at the end": {func(p [][]api.Tone, _ *api.Setting) { p[0][0].To = 96 }, api.ErrLoss},
		"rule 3, not cut":        {func(_ [][]api.Tone, s *api.Setting) { s.Losses = s.Losses[1:] }, api.ErrLoss},
		"rule 3, no need to cut": {func(p [][]api.Tone, s *api.Setting) { p[0][0].To, s.Losses = 96, s.Losses[1:] }, api.OK},
		"rule 4, not declared":   {func(_ [][]api.Tone, s *api.Setting) { s.Losses = slices.Delete(s.Losses, doubled, doubled+1) }, api.ErrLoss},
		"rule 4, time":           {func(_ [][]api.Tone, s *api.Setting) { s.Losses[doubled].Time = 48 }, api.ErrLoss},
		"rule 4, the other one": {func(_ [][]api.Tone, s *api.Setting) {
			s.Losses = []api.Loss{{Kind: api.Doubled}, {Kind: api.Cut, Time: 96}, s.Losses[dropped]}
		}, api.ErrLoss},
		"rule 4, not doubled": {func(_ [][]api.Tone, s *api.Setting) {
			s.Losses = slices.Insert(s.Losses, dropped, api.Loss{Part: 2, Kind: api.Doubled})
		}, api.ErrLoss},
		"rule 4, of a dropped one": {func(_ [][]api.Tone, s *api.Setting) {
			s.Where[0][0] = api.Place{}
			s.Losses = []api.Loss{{Kind: api.Dropped}, s.Losses[doubled], s.Losses[dropped]}
		}, api.ErrLoss},
		"rule 4, the first one dropped": {func(_ [][]api.Tone, s *api.Setting) {
			s.Where[0][0] = api.Place{}
			s.Losses = []api.Loss{{Kind: api.Dropped}, s.Losses[dropped]}
		}, api.OK},
		"rule 5": {func(_ [][]api.Tone, s *api.Setting) {
			s.Piece.Events[2].Stops = append(s.Piece.Events[2].Stops, api.Stop{Course: 2, Fret: 3})
			s.Piece.Events[1].Stops[0].Hold = 0
		}, api.ErrLoss},
		"rule 5, a stop alone": {func(_ [][]api.Tone, s *api.Setting) {
			s.Where[1][1] = api.Place{}
			s.Losses = slices.Insert(s.Losses, dropped, api.Loss{Part: 1, Tone: 1, Kind: api.Dropped, Time: 96})
		}, api.ErrLoss},
	} {
		s := cloneSetting(good)
		p := make([][]api.Tone, len(voices))
		for i := range p {
			p[i] = slices.Clone(voices[i])
		}
		c.change(p, &s)
		if by := judged(p, s); by != c.want {
			t.Errorf("%s: by the document %d, not %d", name, by, c.want)
		}
		if e := intabulate.Verify(p, s); e != c.want {
			t.Errorf("%s: Verify: %d; it should be %d", name, e, c.want)
		}
		l, e := intabulate.Left(p, s)
		if e != c.want || e != api.OK && len(l) > 0 || e == api.OK && shownParts(l) != shownParts(left(p, s)) {
			t.Errorf("%s: Left = %v, %d", name, l, e)
		}
	}
}

// P8.4: open strings ring on, and end with the next note of their course, or with a rest.
func TestVerifyOpenStrings(t *testing.T) {
	in := strung("C4/5 G3/5 : 1 2 3 4 5")
	set := func(events []api.Event, where string, losses ...api.Loss) api.Setting {
		s := api.Setting{Piece: api.Piece{Instrument: in, Events: events}, Losses: losses}
		for range where {
			s.Where = append(s.Where, []api.Place{{Course: 1}})
		}
		return s
	}
	minim := api.Sign{Value: 3}
	open := api.Event{Sign: minim, Stops: []api.Stop{{Course: 1}}}
	for i, c := range []struct {
		parts string
		s     api.Setting
		want  api.Errno
	}{
		{"60 0 192", set([]api.Event{open, {Sign: minim, Tie: true}}, "."), api.OK},
		{"60 0 192", set([]api.Event{open, {Sign: minim}}, "."), api.ErrLoss},
		{"60 0 96", set([]api.Event{open, {Sign: minim}}, "."), api.OK},
		{"60 0 192", set([]api.Event{open, {Sign: minim}}, ".", api.Loss{Kind: api.Cut, Time: 96}), api.OK},
		{"60 0 192; 60 96 192", set([]api.Event{open, open}, "..", api.Loss{Kind: api.Cut, Time: 96}), api.OK},
		{"60 0 192; 60 96 192", set([]api.Event{open, open}, ".."), api.ErrLoss},
		{"60 0 192; 60 0 192", set([]api.Event{open, {Sign: minim, Tie: true}}, "..", api.Loss{Part: 1, Kind: api.Doubled}), api.OK},
		{"60 0 192; 60 0 192", set([]api.Event{open, {Sign: minim}}, "..", api.Loss{Kind: api.Cut, Time: 96}, api.Loss{Part: 1, Kind: api.Doubled}, api.Loss{Part: 1, Kind: api.Cut, Time: 96}), api.OK},
	} {
		if e := intabulate.Verify(parts(c.parts), c.s); e != c.want || judged(parts(c.parts), c.s) != c.want {
			t.Errorf("%d: Verify: %d; it should be %d", i, e, c.want)
		}
	}
}

// damage changes something of a setting, or of the parts.
func damage(r *rand.Rand, p [][]api.Tone, s *api.Setting) {
	small := func() int { return r.IntN(5) - 1 }
	if i := r.IntN(12); i < 5 && len(s.Losses) > 0 {
		l := &s.Losses[r.IntN(len(s.Losses))]
		*[]*int{&l.Part, &l.Tone, &l.Kind, &l.Time, &l.Kind}[i] = []int{small(), small(), small(), 24 * small(), 3}[i]
		return
	}
	switch r.IntN(8) {
	case 0:
		s.Losses = slices.Insert(s.Losses, r.IntN(len(s.Losses)+1), api.Loss{Part: r.IntN(3), Tone: r.IntN(3), Kind: 1 + r.IntN(3), Time: 12 * r.IntN(12)})
	case 1:
		if len(s.Losses) > 0 {
			i := r.IntN(len(s.Losses))
			s.Losses = slices.Delete(s.Losses, i, i+1)
		}
	case 2, 3:
		if len(p) > 0 {
			i := r.IntN(len(p))
			if len(p[i]) > 0 {
				tone := &p[i][r.IntN(len(p[i]))]
				*[]*int{&tone.Pitch, &tone.From, &tone.To, &tone.To}[r.IntN(4)] += []int{-12, -1, 1, 12}[r.IntN(4)]
			}
		}
	case 4:
		if len(s.Where) > 0 {
			i := r.IntN(len(s.Where))
			if len(s.Where[i]) > 0 {
				s.Where[i][r.IntN(len(s.Where[i]))] = api.Place{Course: small(), Fret: small()}
			}
		}
	case 5, 6:
		if len(s.Piece.Events) > 0 {
			ev := &s.Piece.Events[r.IntN(len(s.Piece.Events))]
			if len(ev.Stops) == 0 {
				ev.Tie = !ev.Tie
				return
			}
			st := &ev.Stops[r.IntN(len(ev.Stops))]
			*[]*int{&st.Course, &st.Fret, &st.Hold, &st.Hold}[r.IntN(4)] += small()
		}
	default:
		s.Shift += small()
	}
}

// P8.4: settings that are damaged a little, by the document.
func TestVerifyByTheDocument(t *testing.T) {
	r := rand.New(rand.NewPCG(13, 14))
	found := map[api.Errno]int{}
	tasks, settings := verdicts()
	for i, k := range tasks {
		for range 6 {
			s := cloneSetting(settings[i])
			p := make([][]api.Tone, len(k.parts))
			for j := range p {
				p[j] = slices.Clone(k.parts[j])
			}
			for range r.IntN(3) {
				damage(r, p, &s)
			}
			want := judged(p, s)
			found[want]++
			if e := intabulate.Verify(p, s); e != want {
				t.Fatalf("Verify of %s, %v, %s: %d; it should be %d", shownParts(p), s.Piece.Instrument, shown(s), e, want)
			}
			l, e := intabulate.Left(p, s)
			if e != want || e != api.OK && len(l) > 0 || e == api.OK && (shownParts(l) != shownParts(left(p, s)) || len(l) != len(p)) {
				t.Fatalf("Left of %s, %s = %v, %d", shownParts(p), shown(s), l, e)
			}
		}
	}
	for _, e := range []api.Errno{api.OK, api.ErrLoss, api.ErrPart} {
		if found[e] < 300 {
			t.Errorf("%d of %d", found[e], e)
		}
	}
}

// P8.4, R1, R2: the order of the errors of Verify and Left.
func TestVerifyErrors(t *testing.T) {
	p, good := duet(t)
	noPiece := cloneSetting(good)
	noPiece.Piece.Events[0].Sign = api.Sign{}
	noInstrument := cloneSetting(good)
	noInstrument.Piece.Instrument.Courses = nil
	shift := func(by int) api.Setting {
		s := cloneSetting(good)
		s.Shift, s.Losses[0].Part = by, 9
		return s
	}
	where := func(change func(s *api.Setting)) api.Setting {
		s := cloneSetting(good)
		s.Losses[0].Part = 9
		change(&s)
		return s
	}
	noPiece.Shift, noInstrument.Shift = 25, 25
	for i, c := range []struct {
		parts [][]api.Tone
		s     api.Setting
		want  api.Errno
	}{
		{make([][]api.Tone, 7), noPiece, api.ErrMany},
		{parts("67 0 0"), noPiece, api.ErrPart},
		{p, noPiece, api.ErrSign},
		{p, noInstrument, api.ErrInstrument},
		{p, api.Setting{}, api.ErrInstrument},
		{p, shift(25), api.ErrArg},
		{p, shift(-25), api.ErrArg},
		{p, shift(24), api.ErrLoss},
		{p, shift(-24), api.ErrLoss},
		{p, where(func(s *api.Setting) { s.Where = s.Where[:3] }), api.ErrArg},
		{p, where(func(s *api.Setting) { s.Where = append(s.Where, nil) }), api.ErrArg},
		{p, where(func(s *api.Setting) { s.Where[1] = s.Where[1][:1] }), api.ErrArg},
		{p, where(func(s *api.Setting) { s.Where[3] = append(s.Where[3], api.Place{}) }), api.ErrArg},
		{p, where(func(s *api.Setting) { s.Where = nil }), api.ErrArg},
		{p, where(func(*api.Setting) {}), api.ErrLoss},
	} {
		if e := intabulate.Verify(c.parts, c.s); e != c.want {
			t.Errorf("%d: Verify: %d; it should be %d", i, e, c.want)
		}
		if l, e := intabulate.Left(c.parts, c.s); e != c.want || len(l) > 0 {
			t.Errorf("%d: Left = %v, %d; it should be %d", i, l, e, c.want)
		}
	}
	for _, x := range hostile {
		s := cloneSetting(good)
		s.Shift = x
		want := api.ErrLoss
		if x == 0 {
			want = api.OK
		} else if x < -24 || x > 24 {
			want = api.ErrArg
		}
		if e := intabulate.Verify(p, s); e != want {
			t.Errorf("Verify with the shift %d: %d; it should be %d", x, e, want)
		}
		for i := range good.Losses {
			for _, change := range []func(l *api.Loss) *int{
				func(l *api.Loss) *int { return &l.Part }, func(l *api.Loss) *int { return &l.Tone },
				func(l *api.Loss) *int { return &l.Kind }, func(l *api.Loss) *int { return &l.Time },
			} {
				s := cloneSetting(good)
				*change(&s.Losses[i]) = x
				if e := intabulate.Verify(p, s); e != judged(p, s) {
					t.Errorf("Verify with %v: %d", s.Losses, e)
				}
			}
		}
		for _, pl := range []api.Place{{Course: x}, {Course: 1, Fret: x}, {Fret: x}} {
			s := cloneSetting(good)
			s.Where[0][0] = pl
			if e := intabulate.Verify(p, s); e != judged(p, s) {
				t.Errorf("Verify with %v: %d", s.Where, e)
			}
		}
	}
}

// P8.4: Left of the duet, and of the setting of no parts.
func TestLeft(t *testing.T) {
	p, s := duet(t)
	l, e := intabulate.Left(p, s)
	wants(t, "Left", shownParts(l), e, "62 0 96; 62 0 96, 64 96 192; 55 0 48, 56 48 192; ")
	k := task{parts("60 0 192; 30 0 96, 62 96 192; "), strung("C4/5 : 1 2 3 4 5"), hand.Standard(), 2}
	s = k.must(t)
	l, e = intabulate.Left(k.parts, s)
	wants(t, "Left", shown(s)+" | "+shownParts(l), e, "3 1.2; 3 1.4 | 1.2; - 1.4;  | 0.0 cut 96, 1.0 dropped 0 | 62 0 96; 64 96 192; ")
	k = task{nil, lute(), hand.Standard(), 0}
	l, e = intabulate.Left(nil, k.must(t))
	wants(t, "Left of nothing", len(l), e, 0)
}

// P8.4: Lost counts losses of any setting.
func TestLost(t *testing.T) {
	_, s := duet(t)
	for _, c := range []struct {
		kinds string
		want  string
	}{
		{"", "0 0 0"}, {"1", "1 0 0"}, {"2", "0 1 0"}, {"3", "0 0 1"},
		{"3 1 2 3 3 1", "2 1 3"}, {"0 4 -1 1", "1 0 0"}, {"9223372036854775807 -9223372036854775808 2", "0 1 0"},
	} {
		var losses []api.Loss
		for _, kind := range numbers(c.kinds) {
			losses = append(losses, api.Loss{Part: -kind, Kind: kind})
		}
		dropped, doubled, cut := intabulate.Lost(api.Setting{Losses: losses})
		wants(t, "Lost of "+c.kinds, fmt.Sprint(dropped, doubled, cut), api.OK, c.want)
	}
	dropped, doubled, cut := intabulate.Lost(s)
	wants(t, "Lost", fmt.Sprint(dropped, doubled, cut), api.OK, "1 1 1")
}
