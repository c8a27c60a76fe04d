package piece_test

import (
	"fmt"
	"testing"

	"theorbo/api"
	"theorbo/piece"
)

// signsByTicks are all signs.
var signsByTicks = func() map[int]api.Sign {
	m := map[int]api.Sign{}
	for name, n := range ticksOf {
		m[n] = signed(name)
	}
	return m
}()

// signFor returns the sign that has a number of ticks.
func signFor(ticks int) (api.Sign, bool) {
	s, ok := signsByTicks[ticks]
	return s, ok
}

// joined joins a valid piece as the document says.
func joined(p api.Piece) api.Piece {
	d := durations(p)
	merged := make([]bool, len(d))
	want := copied(p)
	want.Events = nil
	for i := 0; i < len(d); {
		total, next := d[i], i+1
		for next < len(d) && p.Events[next].Tie && !p.Events[next].Bar {
			if _, ok := signFor(total + d[next]); !ok {
				break
			}
			total += d[next]
			merged[next] = true
			next++
		}
		ev := p.Events[i]
		ev.Sign, _ = signFor(total)
		ev.Stops = append([]api.Stop{}, ev.Stops...)
		want.Events = append(want.Events, ev)
		i = next
	}
	index := 0
	for i, ev := range p.Events {
		if merged[i] {
			continue
		}
		for j, st := range ev.Stops {
			for _, m := range merged[i+1 : i+1+st.Hold] {
				if m {
					want.Events[index].Stops[j].Hold--
				}
			}
		}
		index++
	}
	return want
}

// P2.9: as the document says.
func TestJoin(t *testing.T) {
	for _, p := range pieces(t) {
		got, e := piece.Join(p)
		wants(t, "Join of "+shown(p), got, e, joined(p), api.OK)
	}
	for name, b := range broken() {
		got, e := piece.Join(b.p)
		wants(t, "Join of "+name, got, e, api.Piece{}, b.e)
	}
}

// P2.9: pieces that are written out.
func TestJoinWritten(t *testing.T) {
	for _, c := range []struct{ events, want []string }{
		{nil, nil},
		{[]string{"3 1/2h1", "4 ~", "- %"}, []string{"3. 1/2", "4 %"}},
		{[]string{"4 1/2r1g2", "- ~"}, []string{"3 1/2r1g2"}},
		{[]string{"|4 1/2", "|- ~"}, []string{"|4 1/2", "|4 ~"}},
		{[]string{"4 1/2", "|- ~", "- ~"}, []string{"4 1/2", "|3 ~"}},
		{[]string{"4 1/2", "- 2/0", "- ~", "- %"}, []string{"4 1/2", "3 2/0", "4 %"}},
		{[]string{"4 %", "- ~", "- %"}, []string{"3 %", "4 %"}},
		{[]string{"3 1/0", "5 ~", "- ~"}, []string{"3 1/0", "4 ~"}},
		{[]string{"3 1/0", "4 ~", "- ~"}, []string{"2 1/0"}},
		{[]string{"4t 1/0", "- ~", "- ~", "- ~", "- ~", "- %"}, []string{"2t 1/0", "4t ~", "4t %"}},
		{[]string{"4t 1/0", "- ~", "4 ~"}, []string{"3t 1/0", "4 ~"}},
		{[]string{"4t 1/0", "5t ~"}, []string{"4 1/0"}},
		{[]string{"1 1/0", "2 ~", "- ~"}, []string{"1. 1/0", "2 ~"}},
		{[]string{"1 1/0", "- ~"}, []string{"1 1/0", "1 ~"}},
		{[]string{"4 1/2h3 3/5h2", "- ~", "- 2/0", "- ~", "- 1/0"}, []string{"3 1/2h1 3/5h1", "3 2/0", "4 1/0"}},
		{[]string{"4 1/2h4", "|- ~", "- ~", "- 2/1h1", "5 ~"}, []string{"4 1/2h2", "|3 ~", "4. 2/1"}},
		{[]string{"4 1/2h1", "- 2/3h2", "- ~", "- 3/0", "- ~"}, []string{"4 1/2h1", "3 2/3h1", "3 3/0"}},
	} {
		got, e := piece.Join(made(c.events...))
		wants(t, fmt.Sprintf("Join(%q)", c.events), got, e, made(c.want...), api.OK)
	}
}

// part is a stretch of time of the event that it comes from.
type part struct{ event, from, to int }

// parts divides the events of a valid piece at the multiples of bar.
func parts(p api.Piece, bar int) []part {
	var l []part
	from := 0
	for i, d := range durations(p) {
		to := from + d
		for bar*(from/bar+1) < to {
			l = append(l, part{i, from, bar * (from/bar + 1)})
			from = bar * (from/bar + 1)
		}
		l = append(l, part{i, from, to})
		from = to
	}
	return l
}

// broke breaks a valid piece as the document says; best is what bestSigns returns.
func broke(p api.Piece, bar int, best [][]int) (api.Piece, api.Errno) {
	want := copied(p)
	want.Events = nil
	first := map[int]int{}
	for _, x := range parts(p, bar) {
		if best[x.to-x.from] == nil {
			return api.Piece{}, api.ErrTime
		}
		at := x.from
		for _, ticks := range best[x.to-x.from] {
			ev := api.Event{Bar: at > 0 && at%bar == 0, Tie: true}
			ev.Sign, _ = signFor(ticks)
			if isRest(p.Events[x.event]) {
				ev.Tie = false
			}
			if _, ok := first[x.event]; !ok {
				first[x.event] = len(want.Events)
				ev.Tie = p.Events[x.event].Tie
				ev.Stops = append([]api.Stop{}, p.Events[x.event].Stops...)
			}
			want.Events = append(want.Events, ev)
			at += ticks
		}
	}
	if len(want.Events) > 400 {
		return api.Piece{}, api.ErrMany
	}
	for i, ev := range p.Events {
		for j, st := range ev.Stops {
			if st.Hold == 0 {
				continue
			}
			hold := first[i+st.Hold] - first[i]
			if hold > 15 {
				return api.Piece{}, api.ErrHold
			}
			want.Events[first[i]].Stops[j].Hold = hold
		}
	}
	return want, api.OK
}

// P2.10: as the document says.
func TestBreak(t *testing.T) {
	best := bestSigns()
	met := map[api.Errno]int{}
	for _, p := range pieces(t) {
		for _, bar := range []int{1, 2, 4, 6, 7, 12, 16, 18, 23, 24, 36, 48, 72, 96, 100, 120, 144, 192, 288, 384, 576, 577, 1000, 4608} {
			want, fault := broke(p, bar, best)
			met[fault]++
			got, e := piece.Break(p, bar)
			wants(t, fmt.Sprintf("Break(%s, %d)", shown(p), bar), got, e, want, fault)
		}
	}
	for _, e := range []api.Errno{api.OK, api.ErrTime, api.ErrMany, api.ErrHold} {
		if met[e] < 10 {
			t.Errorf("error %d is tried %d times", e, met[e])
		}
	}
}

// P2.10: pieces that are written out.
func TestBreakWritten(t *testing.T) {
	for _, c := range []struct {
		bar          int
		events, want []string
	}{
		{96, nil, nil},
		{72, []string{"3 1/2h1", "4 ~", "- %"}, []string{"4. 1/2h2", "|5 ~", "4 ~", "|4 %"}},
		{96, []string{"|4 1/0", "- 2/0", "- 3/0"}, []string{"4 1/0", "4 2/0", "|4 3/0"}},
		{96, []string{"|4 1/0", "|- 2/0", "|- 3/0", "|- %"}, []string{"4 1/0", "4 2/0", "|4 3/0", "4 %"}},
		{96, []string{"4 1/0", "3 %", "5t 2/0"}, []string{"4 1/0", "4 %", "|4 %", "5t 2/0"}},
		{96, []string{"4 1/2r1g2 2/0", "3 ~"}, []string{"4 1/2r1g2 2/0", "4 ~", "|4 ~"}},
		{96, []string{"1 1/2r1g2"}, []string{"3 1/2r1g2", "|3 ~", "|3 ~", "|3 ~"}},
		{96, []string{"3 1/0", "- %"}, []string{"3 1/0", "|3 %"}},
		{120, []string{"2 1/0"}, []string{"3 1/0", "5 ~", "|4. ~"}},
		{90, []string{"2 %"}, []string{"4. %", "6. %", "|4. %", "6. %", "|6 %"}},
		{4608, []string{"|1. 1/0"}, []string{"1. 1/0"}},
		{4, []string{"7t 1/0", "6t %"}, []string{"7t 1/0", "|7t %", "|7t %"}},
		{96, []string{"4. 1/3h2", "- 2/0", "- 3/0"}, []string{"4. 1/3h3", "5 2/0", "|4 ~", "4 3/0", "|5 ~"}},
		{96, []string{"2 1/3h1", "- 2/4h1", "4 ~"}, []string{"3 1/3h2", "|3 ~", "|3 2/4h2", "|3 ~", "|4 ~"}},
	} {
		got, e := piece.Break(made(c.events...), c.bar)
		wants(t, fmt.Sprintf("Break(%q, %d)", c.events, c.bar), got, e, made(c.want...), api.OK)
	}
}

// P2.10: the errors and their order.
func TestBreakErrors(t *testing.T) {
	for name, b := range broken() {
		for _, bar := range []int{96, 0, 1, -1, 4609} {
			got, e := piece.Break(b.p, bar)
			wants(t, "Break of "+name, got, e, api.Piece{}, b.e)
		}
	}
	for _, bar := range hostile {
		want := api.OK
		if bar < 1 || bar > 4608 {
			want = api.ErrArg
		}
		got, e := piece.Break(made(), bar)
		wants(t, fmt.Sprintf("Break by %d", bar), got, e, made(), want)
	}
	for _, c := range []struct {
		bar    int
		events []string
		want   api.Errno
	}{
		{0, []string{"4 1/0"}, api.ErrArg},
		{-1, []string{"4 1/0"}, api.ErrArg},
		{4609, []string{"4 1/0"}, api.ErrArg},
		{1, []string{"4 1/0"}, api.ErrTime},
		{7, []string{"4 1/0"}, api.ErrTime},
		{47, []string{"4 1/0"}, api.ErrTime},
		{4, []string{"1. 1/0", "- ~", "- ~"}, api.ErrMany},
		{4, []string{"1. 1/0", "- ~", "- ~", "7 1/0"}, api.ErrTime},
		{4, []string{"1. 1/1h1", "- ~"}, api.ErrHold},
		{4, []string{"1. 1/1h1", "- ~", "- 2/0"}, api.ErrMany},
		{4, []string{"3 1/1h1", "- ~", "7 1/0"}, api.ErrTime},
		{6, []string{"3 1/1h1", "- ~"}, api.ErrHold},
		{12, []string{"3 1/1h2", "- ~", "- ~"}, api.ErrHold},
		{96, []string{"2 1/1h8", "- ~", "- ~", "- ~", "- ~", "- ~", "- ~", "- ~", "- ~"}, api.ErrHold},
	} {
		got, e := piece.Break(made(c.events...), c.bar)
		wants(t, fmt.Sprintf("Break(%q, %d)", c.events, c.bar), got, e, api.Piece{}, c.want)
	}
}

// P2.10: the most events and the longest hold that a result may have.
func TestBreakLimits(t *testing.T) {
	p := api.Piece{Instrument: standard("lute6")}
	for range 200 {
		p.Events = append(p.Events, api.Event{Sign: signed("2")})
	}
	got, e := piece.Break(p, 96)
	if e != api.OK || len(got.Events) != 400 {
		t.Errorf("%d events, %d", len(got.Events), e)
	}
	p.Events = append(p.Events, api.Event{Sign: signed("7")})
	got, e = piece.Break(p, 96)
	wants(t, "Break into 401", got, e, api.Piece{}, api.ErrMany)
	got, e = piece.Break(made("3. 1/1h1", "- ~"), 10)
	wants(t, "Break by 10", got, e, api.Piece{}, api.ErrHold)
	got, e = piece.Break(made("4. 1/1h4", "5. ~", "6. ~", "7. ~", "- ~"), 9)
	if e != api.OK || got.Events[0].Stops[0].Hold != 15 {
		t.Errorf("a hold that becomes 15: %d, %s", e, shown(got))
	}
	got, e = piece.Break(made("4. 1/1h4", "5. ~", "6. ~", "- ~", "- ~"), 9)
	wants(t, "a hold that becomes 16", got, e, api.Piece{}, api.ErrHold)
	got, e = piece.Break(made("4 1/1h15", "5 ~", "- ~", "- ~", "- ~", "- ~", "- ~", "- ~", "- ~", "- ~", "- ~", "- ~", "- ~", "- ~", "- ~", "- ~"), 4608)
	if e != api.OK || got.Events[0].Stops[0].Hold != 15 {
		t.Errorf("a hold of 15: %d, %s", e, shown(got))
	}
	// The hold ends at the first part of the last held event.
	got, e = piece.Break(made("4 1/1h15", "- ~", "- ~", "- ~", "- ~", "- ~", "- ~", "- ~", "- ~", "- ~", "- ~", "- ~", "- ~", "- ~", "- ~", "3 ~"), 16*48)
	if e != api.OK || got.Events[0].Stops[0].Hold != 15 || len(got.Events) != 17 {
		t.Errorf("a hold of 15 to a divided event: %d, %s", e, shown(got))
	}
}
