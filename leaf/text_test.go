package leaf_test

import (
	"math/rand/v2"
	"slices"
	"strings"
	"testing"

	"theorbo/api"
	"theorbo/instrument"
	"theorbo/leaf"
)

// written are leaves and their texts behind the first line.
var written = []struct{ columns, want string }{
	{"", ""},
	{". 3 0 -/3; | 4 1/2 -", ". 3 0 -/3\n| 4 1/2 -\n"},
	{"| 1 0 0; ~ 2 - -; |~ 3 - -; . 4 - -", "| 1 0 0\n~ 2 - -\n|~ 3 - -\n. 4 - -\n"},
	{". 1/1t/1./7/7t/7. -/0/1/2/3/4/5 5", ". 1/1t/1./7/7t/7. -/0/1/2/3/4/5 5\n"},
}

// P10.5: texts of all kinds of columns, and back.
func TestFormat(t *testing.T) {
	for _, c := range written {
		f := made(pair, c.columns)
		want := pair + "\n" + c.want
		text, e := leaf.Format(f)
		wants(t, "Format of "+c.columns, text, e, want)
		back, e := leaf.Parse(want)
		if e != api.OK || !sameLeaf(back, f) {
			t.Errorf("Parse(%q) = %v, %d", want, back, e)
		}
	}
	low := api.Leaf{Instrument: standard("theorbo14"), Columns: []api.Column{columnOf(". 4 8 - - - - - - - - - - - - -/0")}}
	text, e := leaf.Format(low)
	wants(t, "Format for a theorbo", text, e, "A3/8 E3/8 B3/8 G3/8 D3/8 A2/8 G2/0 F2/0 E2/0 D2/0 C2/0 B1/0 A1/0 G1/0 : 1 2 3 4 5 6 7 8\n. 4 8 - - - - - - - - - - - - -/0\n")
	high := made(gut(1), ". 4 9/10/11/18")
	text, e = leaf.Format(high)
	wants(t, "Format for high frets", text, e, gut(1)+"\n. 4 9/10/11/18\n")
	flat := made("Ab3/1 : 1", ". 4 0")
	text, e = leaf.Format(flat)
	wants(t, "Format for a flat", text, e, "G#3/1 : 1\n. 4 0\n")
	for _, b := range brokenLeaves() {
		if text, e := leaf.Format(b.f); e != b.e || text != "" {
			t.Errorf("Format of %s = %q, %d; it should be %d", b.name, text, e, b.e)
		}
	}
}

// P10.5: texts that are no leaves, and what is wrong with them.
func TestParse(t *testing.T) {
	const line = "G4/5 D4/5 : 1 2 3 4 5\n"
	for _, c := range []struct {
		text string
		want api.Errno
	}{
		{"", api.ErrForm},
		{line, api.OK},
		{strings.TrimSuffix(line, "\n"), api.ErrForm},
		{"\n", api.ErrForm},
		{"\n" + line, api.ErrForm},
		{line + "\n", api.ErrForm},
		{line + ". 4 0 0", api.ErrForm},
		{line + ". 4 0 0\n", api.OK},
		{line + ". 4 0 0\n\n", api.ErrForm},
		{line + "\n. 4 0 0\n", api.ErrForm},
		{line + ". 4 0 0\r\n", api.ErrForm},
		{line + " . 4 0 0\n", api.ErrForm},
		{line + ". 4 0 0 \n", api.ErrForm},
		{line + ".  4 0 0\n", api.ErrForm},
		{line + ".\t4 0 0\n", api.ErrForm},
		{line + ".\n", api.ErrForm},
		{line + ". 4\n", api.ErrForm},
		{line + ". 4 0\n", api.ErrForm},
		{line + ". 4 0 0 0\n", api.ErrForm},
		{line + "4 0 0\n", api.ErrForm},
		{line + "|. 4 0 0\n", api.ErrForm},
		{line + ".| 4 0 0\n", api.ErrForm},
		{line + "|| 4 0 0\n", api.ErrForm},
		{line + "~ 4 - -\n", api.ErrForm},
		{line + ". 4 0 0\n~ 4 - -\n", api.OK},
		{line + ". 4 0 0\n.~ 4 - -\n", api.ErrForm},
		{line + ". 4 0 0\n~| 4 - -\n", api.ErrForm},
		{line + ". 4 0 0\n|~ 4 - -\n", api.OK},
		{line + ". 4 0 0\n|x~ 4 - -\n", api.ErrForm},
		{line + ". 4 0 0\n~ 4 - 0\n", api.ErrForm},
		{line + ". 0 0 0\n", api.ErrForm},
		{line + ". 8 0 0\n", api.ErrForm},
		{line + ". - 0 0\n", api.ErrForm},
		{line + ". -4 0 0\n", api.ErrForm},
		{line + ". +4 0 0\n", api.ErrForm},
		{line + ". 04 0 0\n", api.ErrForm},
		{line + ". 4.. 0 0\n", api.ErrForm},
		{line + ". 4.t 0 0\n", api.ErrForm},
		{line + ". 4t. 0 0\n", api.ErrForm},
		{line + ". 4tt 0 0\n", api.ErrForm},
		{line + ". . 0 0\n", api.ErrForm},
		{line + ". t 0 0\n", api.ErrForm},
		{line + ". 4/ 0 0\n", api.ErrForm},
		{line + ". /4 0 0\n", api.ErrForm},
		{line + ". 5/4 0 0\n", api.ErrForm},
		{line + ". 4//5 0 0\n", api.ErrForm},
		{line + ". 4,5 0 0\n", api.ErrForm},
		{line + ". 4 0 6\n", api.ErrForm},
		{line + ". 4 0 -1\n", api.ErrForm},
		{line + ". 4 0 +1\n", api.ErrForm},
		{line + ". 4 0 01\n", api.ErrForm},
		{line + ". 4 0 --\n", api.ErrForm},
		{line + ". 4 0 1/0\n", api.ErrForm},
		{line + ". 4 0 0/-\n", api.ErrForm},
		{line + ". 4 0 0/0\n", api.ErrForm},
		{line + ". 4 0 99999999999999999999\n", api.ErrForm},
		{line + ". 99999999999999999999 0 0\n", api.ErrForm},
		{line + ". 4 0 a\n", api.ErrForm},
		{line + ". 4 0 0\n. 4 0 6\n", api.ErrForm},
		{"G4/5 D4/5 1 2 3 4 5\n. 4 0 0\n", api.ErrForm},
		{"G4/5 D4/5 : 1 2 3 4 5 \n. 4 0 0\n", api.ErrForm},
		{"G4/5 D4/5 : 1 2 3 4 5\r\n. 4 0 0\n", api.ErrForm},
		{"G4/5 Cx4/5 : 1 2 3 4 5\n. 4 0 0\n", api.ErrForm},
		{"Fx4/5 D4/5 : 1 2 3 4 5\n", api.ErrForm},
		{"Ab3/1 : 1\n. 4 0\n", api.ErrForm},
		{"G#3/1 : 1\n. 4 0\n", api.OK},
		{"Cb-1/1 : 1\n. 4 0\n", api.ErrPitch},
		{"G9/5 : 1 2 3 4 5\n. 4 0\n", api.ErrPitch},
		{"G4/6 : 1 2 3 4 5\n. 4 0\n", api.ErrFret},
		{": 1 2 3\n", api.ErrInstrument},
		{"G4/5 : 1 3 2 4 5\nx\n", api.ErrInstrument},
		{strings.Repeat("G4/1 ", 15) + ": 1\nx\n", api.ErrMany},
		{"G4/6 : 1 2 3 4 5\nx", api.ErrFret},
		{"G4/5 : 1 2 3 4 5" + strings.Repeat(" ", 70000) + "\n", api.ErrMany},
		{"G4/1 : 1\n" + strings.Repeat(". 4 0\n", 400), api.OK},
		{"G4/1 : 1\n" + strings.Repeat(". 4 0\n", 401), api.ErrForm},
		{"G4/1 : 1\n" + strings.Repeat("\n", 401), api.ErrForm},
	} {
		f, e := leaf.Parse(c.text)
		if e != c.want || e != api.OK && !isNothing(f) {
			t.Errorf("Parse(%.80q) = %v, %d; it should be %d", c.text, f, e, c.want)
		}
		if e == api.OK {
			text, e := leaf.Format(f)
			wants(t, "Format of Parse", text, e, c.text)
		}
	}
}

// sized returns a leaf of 400 columns, for 14 courses, whose text has so many bytes.
func sized(bytes int) api.Leaf {
	f := made(gut(14), "")
	bytes -= len(gut(14) + "\n")
	for range 400 {
		c := columnOf(". 4" + strings.Repeat(" 0", 14))
		bytes -= len(shownColumn(c) + "\n")
		f.Columns = append(f.Columns, c)
	}
	for i := range 14 * 400 {
		cell := &f.Columns[i%400].Cells[i/400]
		if bytes%2 == 1 {
			// The number 10 has a byte more than 0.
			*cell = []int{10}
			bytes--
			continue
		}
		for n := 1; n <= 9 && bytes > 0; n++ {
			*cell = append(*cell, n)
			bytes -= 2
		}
	}
	return f
}

// P10.5: texts of 65536 bytes, and longer ones.
func TestLongTexts(t *testing.T) {
	for _, bytes := range []int{65534, 65535, 65536, 65537, 65538, 90000} {
		f := sized(bytes)
		if e := leaf.Check(f); e != api.OK {
			t.Fatalf("Check of a long leaf: %d", e)
		}
		full := gut(14) + "\n"
		for _, c := range f.Columns {
			full += shownColumn(c) + "\n"
		}
		if len(full) != bytes {
			t.Fatalf("the text has %d bytes; it should have %d", len(full), bytes)
		}
		text, e := leaf.Format(f)
		back, fault := leaf.Parse(full)
		if bytes <= 65536 {
			wants(t, "Format of a long leaf", text, e, full)
			if fault != api.OK || !sameLeaf(back, f) {
				t.Errorf("Parse of %d bytes: %d", bytes, fault)
			}
		} else if e != api.ErrMany || text != "" || fault != api.ErrMany || !isNothing(back) {
			t.Errorf("%d bytes: Format returns %d, Parse %d", bytes, e, fault)
		}
	}
	for _, text := range []string{strings.Repeat("x", 65537), strings.Repeat("\n", 65537), pair + "\n" + strings.Repeat("y", 65537)} {
		if f, e := leaf.Parse(text); e != api.ErrMany || !isNothing(f) {
			t.Errorf("Parse of a long text: %d", e)
		}
	}
	if f, e := leaf.Parse(strings.Repeat("x", 65536)); e != api.ErrForm || !isNothing(f) {
		t.Errorf("Parse of a text that is not too long: %d", e)
	}
}

// P10.5, P10.11: Parse of Format is the leaf, for leaves of any kind.
func TestThereAndBack(t *testing.T) {
	r := rand.New(rand.NewPCG(18, 19))
	for range 2000 {
		f := anyLeaf(r, r.IntN(9), 7)
		text, e := leaf.Format(f)
		in, _ := instrument.Format(f.Instrument)
		want := in + "\n"
		for _, c := range f.Columns {
			want += shownColumn(c) + "\n"
		}
		wants(t, "Format of "+shown(f), text, e, want)
		back, e := leaf.Parse(text)
		if e != api.OK || !sameLeaf(back, f) {
			t.Fatalf("Parse(%q) = %v, %d", text, back, e)
		}
	}
}

// P10.5: a text with a byte changed is what Format returns for some leaf, or it is refused.
func TestChangedTexts(t *testing.T) {
	r := rand.New(rand.NewPCG(20, 21))
	found := map[api.Errno]int{}
	letters := []byte("0123456789.|~/-t+: \nG#b\x00\xff")
	for range 40000 {
		f := anyLeaf(r, r.IntN(4), 3)
		text, _ := leaf.Format(f)
		b := []byte(text)
		i := r.IntN(len(b))
		letter := letters[r.IntN(len(letters))]
		switch r.IntN(3) {
		case 0:
			b[i] = letter
		case 1:
			b = slices.Delete(b, i, i+1)
		default:
			b = slices.Insert(b, i, letter)
		}
		back, e := leaf.Parse(string(b))
		found[e]++
		if e != api.OK {
			if !isNothing(back) {
				t.Fatalf("Parse(%q) = %v, %d", b, back, e)
			}
			first, _, ended := strings.Cut(string(b), "\n")
			_, fault := instrument.Parse(first)
			if ended && fault != api.OK && e != fault || (!ended || fault == api.OK) && e != api.ErrForm {
				t.Fatalf("Parse(%q): %d", b, e)
			}
			continue
		}
		if e := leaf.Check(back); e != api.OK {
			t.Fatalf("Parse(%q) = %v, which is not valid", b, back)
		}
		if again, e := leaf.Format(back); e != api.OK || again != string(b) {
			t.Fatalf("Parse(%q) = %v, whose text is %q", b, back, again)
		}
	}
	if found[api.OK] < 500 || found[api.ErrForm] < 5000 {
		t.Errorf("the errors are %v", found)
	}
}
