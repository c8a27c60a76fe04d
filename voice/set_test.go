package voice_test

import (
	"fmt"
	"math/rand/v2"
	"slices"
	"strings"
	"testing"

	"theorbo/api"
	"theorbo/piece"
	"theorbo/voice"
)

// written makes elements: a pitch or `%`, the value with `.` or `t`, and `+` if it is tied: `67 3+, 67 5, % 2`.
func written(t string) []api.Written {
	var l []api.Written
	if t == "" {
		return nil
	}
	for text := range strings.SplitSeq(t, ",") {
		words := strings.Fields(text)
		w := api.Written{Pitch: -1}
		if words[0] != "%" {
			w.Pitch = numbers(words[0])[0]
		}
		w.Tied = strings.HasSuffix(words[1], "+")
		w.Sign.Dot = strings.Contains(words[1], ".")
		w.Sign.Three = strings.Contains(words[1], "t")
		w.Sign.Value = numbers(strings.TrimRight(words[1], ".t+"))[0]
		l = append(l, w)
	}
	return l
}

// shownWritten is the inverse of written.
func shownWritten(l []api.Written) string {
	var all []string
	for _, w := range l {
		text := "%"
		if w.Pitch != -1 {
			text = fmt.Sprint(w.Pitch)
		}
		text += fmt.Sprint(" ", w.Sign.Value) + map[bool]string{true: "."}[w.Sign.Dot] + map[bool]string{true: "t"}[w.Sign.Three] + map[bool]string{true: "+"}[w.Tied]
		all = append(all, text)
	}
	return strings.Join(all, ", ")
}

// P7.6: parts as notes and rests.
func TestSet(t *testing.T) {
	for _, c := range []struct {
		part string
		end  int
		want string
		e    api.Errno
	}{
		{"67 0 96", 288, "67 3, % 2", api.OK},
		{"67 0 120", 120, "67 3+, 67 5", api.OK},
		{"67 0 5", 5, "", api.ErrTime},
		{"", 0, "", api.OK},
		{"", 96, "% 3", api.OK},
		{"", 120, "% 3, % 5", api.OK},
		{"67 96 192", 192, "% 3, 67 3", api.OK},
		{"67 0 96, 67 96 192, 60 192 240", 240, "67 3, 67 3, 60 4", api.OK},
		{"67 0 96, 67 120 192", 216, "67 3, % 5, 67 4., % 5", api.OK},
		{"0 0 32, 127 32 36", 36, "0 4t, 127 7t", api.OK},
		{"60 0 1152", 1152, "60 1.+, 60 1.", api.OK},
		{"60 0 1152", 2304, "60 1.+, 60 1., % 1., % 1.", api.OK},
		{"60 0 4608", 4608, "60 1.+, 60 1.+, 60 1.+, 60 1.+, 60 1.+, 60 1.+, 60 1.+, 60 1.", api.OK},
		// What no signs add up to.
		{"67 0 4620", 4620, "", api.ErrTime},
		{"67 4620 4628", 4628, "", api.ErrTime},
		{"67 0 96", 262144, "", api.ErrTime},
		{"67 0 96", 97, "", api.ErrTime},
		{"67 0 96, 68 107 200", 200, "", api.ErrTime},
		{"67 11 107", 107, "", api.ErrTime},
		{"67 0 96, 68 96 98, 69 98 194", 194, "", api.ErrTime},
		// The range of the end.
		{"67 0 96", 95, "", api.ErrArg},
		{"67 0 5", 4, "", api.ErrArg},
		{"67 0 96", -1, "", api.ErrArg},
		{"", -1, "", api.ErrArg},
		{"67 0 96", 262145, "", api.ErrArg},
		{"67 0 0", 262145, "", api.ErrPart},
	} {
		got, e := voice.Set(part(c.part), c.end)
		if shownWritten(got) != c.want || e != c.e {
			t.Errorf("Set(%s, %d) = %s, %d; it should be %s, %d", c.part, c.end, shownWritten(got), e, c.want, c.e)
		}
	}
	if _, e := voice.Set(evenly(401, 60, 96), -1); e != api.ErrMany {
		t.Errorf("Set of 401 tones: %d", e)
	}
	for _, n := range hostile {
		want := api.ErrArg
		if n >= 0 && n <= 262144 {
			want = api.ErrTime // but for those lengths that signs add up to
			if _, e := piece.Signs(n); e == api.OK {
				want = api.OK
			}
		}
		if l, e := voice.Set(nil, n); e != want || e != api.OK && len(l) > 0 {
			t.Errorf("Set to %d = %v, %d; it should be %d", n, l, e, want)
		}
	}
}

// P7.6: each sequence of elements, and each error.
func TestUnset(t *testing.T) {
	for _, c := range []struct {
		written, part string
		end           int
		e             api.Errno
	}{
		{"", "", 0, api.OK},
		{"67 3, % 2", "67 0 96", 288, api.OK},
		{"67 3+, 67 5", "67 0 120", 120, api.OK},
		{"67 3, 67 5", "67 0 96, 67 96 120", 120, api.OK},
		{"67 3+, 67 5+, 67 5, 67 3", "67 0 144, 67 144 240", 240, api.OK},
		{"% 3, % 3, 0 3., 127 4t", "0 192 336, 127 336 368", 368, api.OK},
		{"% 7", "", 6, api.OK},
		// The pitch.
		{"-2 3", "", 0, api.ErrPart},
		{"128 3", "", 0, api.ErrPart},
		{"128 0", "", 0, api.ErrPart},
		{"67 3, 128 3", "", 0, api.ErrPart},
		// The sign.
		{"% 0", "", 0, api.ErrTime},
		{"67 0+", "", 0, api.ErrTime},
		{"67 8", "", 0, api.ErrTime},
		{"67 3.t", "", 0, api.ErrTime},
		{"67 0.", "", 0, api.ErrTime},
		{"67 -1", "", 0, api.ErrTime},
		{"67 3+, 67 0", "", 0, api.ErrTime},
		// The tie.
		{"% 3+, % 3", "", 0, api.ErrTie},
		{"67 3+", "", 0, api.ErrTie},
		{"67 3+, 68 3", "", 0, api.ErrTie},
		{"67 3+, % 3", "", 0, api.ErrTie},
		{"67 3+, 128 3", "", 0, api.ErrTie},
		{"67 3+, 67 3+", "", 0, api.ErrTie},
		// The first element with an error decides.
		{"67 3+, 68 3, 128 3", "", 0, api.ErrTie},
		{"67 3, 67 0, % 3+, 128 3", "", 0, api.ErrTime},
	} {
		got, end, e := voice.Unset(written(c.written))
		if shownPart(got) != c.part || end != c.end || e != c.e {
			t.Errorf("Unset(%s) = %s, %d, %d; it should be %s, %d, %d", c.written, shownPart(got), end, e, c.part, c.end, c.e)
		}
	}
	for _, n := range hostile {
		p, end, e := voice.Unset([]api.Written{{Pitch: n, Sign: api.Sign{Value: 3}}})
		if (e == api.OK) != (n >= -1 && n <= 127) || e != api.OK && (e != api.ErrPart || end != 0 || len(p) > 0) {
			t.Errorf("Unset of the pitch %d = %v, %d, %d", n, p, end, e)
		}
		p, end, e = voice.Unset([]api.Written{{Pitch: 60, Sign: api.Sign{Value: n}}})
		if (e == api.OK) != (n >= 1 && n <= 7) || e != api.OK && (e != api.ErrTime || end != 0 || len(p) > 0) {
			t.Errorf("Unset of the value %d = %v, %d, %d", n, p, end, e)
		}
	}
}

// P7.6: as much as there may be.
func TestUnsetOfMany(t *testing.T) {
	times := func(text string, count int) []api.Written { return slices.Repeat(written(text), count) }
	for _, c := range []struct {
		name  string
		l     []api.Written
		tones int
		end   int
		e     api.Errno
	}{
		{"400 tones", times("67 3", 400), 400, 38400, api.OK},
		{"400 tones and rests", times("67 3, % 3", 400), 400, 76800, api.OK},
		{"401 tones", times("67 3", 401), 0, 0, api.ErrMany},
		{"401 tones, the last one of which does not end", append(times("67 3", 400), written("67 3+")...), 0, 0, api.ErrTie},
		{"400 tones, and a wrong element", append(times("67 3", 400), written("128 3")...), 0, 0, api.ErrPart},
		{"401 tones, and a wrong element", append(times("67 3", 401), written("128 3")...), 0, 0, api.ErrMany},
		{"400 tied tones and one more", append(times("67 3+, 67 3", 400), written("67 7+, 67 7+, 67 0")...), 0, 0, api.ErrTime},
		// 262144 ticks are 682 breves and 256 more.
		{"MaxTime", append(times("% 1", 682), written("% 1t")...), 0, 262144, api.OK},
		{"MaxTime, and a short rest", append(times("% 1", 682), written("% 1t, % 7t")...), 0, 0, api.ErrMany},
		{"more than MaxTime", times("% 1", 683), 0, 0, api.ErrMany},
		{"more than MaxTime in one tone", append(times("60 1+", 682), written("60 2., 60 0")...), 0, 0, api.ErrMany},
		{"MaxTime in one tone", append(times("60 1+", 682), written("60 1t")...), 1, 262144, api.OK},
		{"more than MaxTime, with another error", append(times("% 1", 682), written("% 2.+")...), 0, 0, api.ErrTie},
	} {
		p, end, e := voice.Unset(c.l)
		if len(p) != c.tones || end != c.end || e != c.e {
			t.Errorf("Unset of %s has %d tones, %d, %d; it should be %d, %d, %d", c.name, len(p), end, e, c.tones, c.end, c.e)
		}
	}
}

// P7.6, P7.12: any part, and the way back.
func TestSetAndUnset(t *testing.T) {
	r := rand.New(rand.NewPCG(13, 14))
	ok := 0
	for range 3000 {
		p := anyPart(r, 8)
		scale := []int{1, 2, 4, 6, 24}[r.IntN(5)]
		end := r.IntN(6)
		for i := range p {
			p[i].From, p[i].To = scale*p[i].From, scale*p[i].To
			end = p[i].To
		}
		end += scale * r.IntN(3)
		var want []api.Written
		wantErr := api.OK
		fill := func(pitch, length int) {
			signs, e := piece.Signs(length)
			if e != api.OK {
				wantErr = api.ErrTime
			}
			for i, s := range signs {
				want = append(want, api.Written{Pitch: pitch, Sign: s, Tied: pitch >= 0 && i < len(signs)-1})
			}
		}
		time := 0
		for _, tone := range p {
			fill(-1, tone.From-time)
			fill(tone.Pitch, tone.To-tone.From)
			time = tone.To
		}
		fill(-1, end-time)
		if wantErr != api.OK {
			want = nil
		}
		got, e := voice.Set(p, end)
		if e != wantErr || !slices.Equal(got, want) {
			t.Fatalf("Set(%v, %d) = %v, %d; it should be %v, %d", p, end, got, e, want, wantErr)
		}
		if e != api.OK {
			continue
		}
		ok++
		back, at, e := voice.Unset(got)
		if e != api.OK || at != end || !slices.Equal(back, p) {
			t.Fatalf("Unset of Set(%v, %d) = %v, %d, %d", p, end, back, at, e)
		}
	}
	if ok < 1000 {
		t.Errorf("only %d parts", ok)
	}
}
