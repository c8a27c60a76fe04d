package hand_test

import (
	"math/rand/v2"
	"slices"
	"strings"
	"testing"

	"theorbo/api"
	"theorbo/hand"
)

// texts are grips and what Write says of them.
var texts = []struct{ grips, text string }{
	{"", ""},
	{"1: 1, 2: 1 1", "1 1\n2 1 1\n"},
	{"3:", "3\n"},
	{"18:, 1:", "18\n1\n"},
	{"10: 4 3 2 1 1 1 1 1 1 1 1 1 1 1", "10 4 3 2 1 1 1 1 1 1 1 1 1 1 1\n"},
}

// P6.9: the examples, and back.
func TestWriteRead(t *testing.T) {
	for _, c := range texts {
		text, e := hand.Write(grips(c.grips))
		wants(t, "Write of "+c.grips, text, e, c.text)
		l, e := hand.Read(c.text)
		wants(t, "Read of "+c.text, shownGrips(l), e, c.grips)
	}
	r := rand.New(rand.NewPCG(11, 12))
	for range 500 {
		var l []api.Grip
		for range r.IntN(20) {
			g := api.Grip{Pos: 1 + r.IntN(18)}
			for range r.IntN(15) {
				g.Fingers = append(g.Fingers, 1+r.IntN(4))
			}
			l = append(l, g)
		}
		text, e := hand.Write(l)
		if back, f := hand.Read(text); e != api.OK || f != api.OK || !sameGrips(back, l) {
			t.Fatalf("%v is written %q, %d and read %v, %d", l, text, e, back, f)
		}
	}
}

// P6.9: the grips that cannot be written.
func TestWriteErrors(t *testing.T) {
	for _, n := range hostile {
		for name, c := range map[string]struct {
			g  api.Grip
			ok bool
		}{
			"position": {api.Grip{Pos: n, Fingers: []int{1}}, n >= 1 && n <= 18},
			"finger":   {api.Grip{Pos: 1, Fingers: []int{1, n}}, n >= 1 && n <= 4},
		} {
			text, e := hand.Write([]api.Grip{{Pos: 1}, c.g})
			if e == api.OK != c.ok || e != api.OK && (e != api.ErrGrip || text != "") {
				t.Errorf("Write with the %s %d = %q, %d", name, n, text, e)
			}
		}
	}
	long := []api.Grip{{Pos: 1, Fingers: slices.Repeat([]int{1}, 15)}}
	if text, e := hand.Write(long); e != api.ErrGrip || text != "" {
		t.Errorf("Write of 15 fingers = %q, %d", text, e)
	}
	if _, e := hand.Write(slices.Repeat(grips("1:"), 400)); e != api.OK {
		t.Errorf("Write of 400 grips: %d", e)
	}
	for _, g := range []string{"1:", "0:"} {
		if text, e := hand.Write(slices.Repeat(grips(g), 401)); e != api.ErrMany || text != "" {
			t.Errorf("Write of 401 grips = %q, %d", text, e)
		}
	}
	if _, e := hand.Write(slices.Repeat(grips("0:"), 400)); e != api.ErrGrip {
		t.Errorf("Write of 400 grips at position 0: %d", e)
	}
}

// P6.9: the texts that Write does not write.
func TestReadErrors(t *testing.T) {
	for _, text := range []string{
		"1 1", "01\n", "1 01\n", "\n", "1\n\n", "\n1\n", " 1\n", "1 \n", "1  1\n", "1\t1\n", "1 1\r\n", "1,1\n", "+1\n", "1 +1\n", "-1\n",
		"0\n", "19\n", "1 0\n", "1 5\n", "1 -1\n", "1 1 1 1 1 1 1 1 1 1 1 1 1 1 1 1\n", "1: 1\n", "x\n", "1 x\n", "1\n2", "1_8\n", "0x1\n", "1.0\n", "1e0\n",
		"99999999999999999999999\n", "1 99999999999999999999999\n", "-9223372036854775808\n", "\x00", "1\x00\n", "\u0661\n", "1 1\n#\n",
	} {
		if l, e := hand.Read(text); e != api.ErrForm || len(l) > 0 {
			t.Errorf("Read of %q = %v, %d", text, l, e)
		}
	}
	for _, c := range []struct {
		text string
		want api.Errno
	}{
		{strings.Repeat("1\n", 400), api.OK},
		{strings.Repeat("1\n", 401), api.ErrMany},
		{strings.Repeat("1\n", 400) + "1", api.ErrMany},
		{strings.Repeat("1\n", 399) + "1", api.ErrForm},
		{strings.Repeat("\n", 400), api.ErrForm},
		{strings.Repeat("\n", 401), api.ErrMany},
		{strings.Repeat("x", 65536), api.ErrForm},
		{strings.Repeat("x", 65537), api.ErrMany},
		{strings.Repeat("1 ", 32767) + "1\n", api.ErrForm},
		{strings.Repeat("\n", 65536), api.ErrMany},
		{strings.Repeat("1 4 4 3 3 2 2 1 1 1 1 1 1 1 1\n", 400), api.OK},
	} {
		l, e := hand.Read(c.text)
		if e != c.want || e == api.OK != (len(l) == 400) || e != api.OK && len(l) > 0 {
			t.Errorf("Read of %.10q.. with %d bytes = %d grips, %d; it should be %d", c.text, len(c.text), len(l), e, c.want)
		}
	}
}

// P6.9: what Read accepts, Write writes: texts that differ little from right ones.
func TestReadAny(t *testing.T) {
	r := rand.New(rand.NewPCG(13, 14))
	accepted := 0
	for range 5000 {
		text := []byte("1 1 2\n12 4 3\n3\n18 1 1 1\n")
		for range 1 + r.IntN(2) {
			at := r.IntN(len(text))
			switch r.IntN(3) {
			case 0:
				text[at] = " \n0123456789+-x"[r.IntN(15)]
			case 1:
				text = slices.Delete(text, at, at+1)
			case 2:
				text = slices.Insert(text, at, " \n01234-"[r.IntN(8)])
			}
		}
		l, e := hand.Read(string(text))
		if e != api.OK && (e != api.ErrForm || len(l) > 0) {
			t.Fatalf("Read of %q = %v, %d", text, l, e)
		}
		if e == api.OK {
			accepted++
			if back, f := hand.Write(l); f != api.OK || back != string(text) {
				t.Fatalf("Read of %q = %v, which is written %q, %d", text, l, back, f)
			}
		}
	}
	if accepted < 200 {
		t.Errorf("only %d texts", accepted)
	}
}
