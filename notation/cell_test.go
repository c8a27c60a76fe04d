package notation_test

import (
	"math/rand/v2"
	"slices"
	"strings"
	"testing"

	"theorbo/api"
	"theorbo/notation"
)

// P3.3
func TestSymbol(t *testing.T) {
	counts := map[api.System]int{}
	for _, sys := range systems {
		for course := 1; course <= 14; course++ {
			for fret := range 19 {
				pl := api.Place{Course: course, Fret: fret}
				want, ok := symbolOf(sys, pl)
				fault := api.ErrCannot
				if ok {
					counts[sys]++
					fault = api.OK
				}
				if s, e := notation.Symbol(sys, pl); s != want || e != fault {
					t.Errorf("Symbol(%d, %v) = %q, %d, want %q", sys, pl, s, e, want)
				}
			}
		}
	}
	if counts[api.French] != 194 || counts[api.Italian] != 74 || counts[api.Spanish] != 66 || counts[api.German] != 66 {
		t.Errorf("symbols: %v", counts)
	}
	for _, c := range []struct {
		sys  api.System
		pl   api.Place
		want string
	}{
		{api.French, api.Place{Course: 8, Fret: 2}, "/c"},
		{api.French, api.Place{Course: 1, Fret: 9}, "k"},
		{api.French, api.Place{Course: 6, Fret: 18}, "t"},
		{api.German, api.Place{Course: 6, Fret: 4}, "D"},
		{api.German, api.Place{Course: 6, Fret: 9}, "I"},
		{api.German, api.Place{Course: 1, Fret: 7}, "kk"},
		{api.Italian, api.Place{Course: 10}, "x"},
	} {
		if s, e := notation.Symbol(c.sys, c.pl); s != c.want || e != api.OK {
			t.Errorf("Symbol(%d, %v) = %q, %d, want %q", c.sys, c.pl, s, e, c.want)
		}
	}
}

// P3.3: the errors and their order.
func TestSymbolErrors(t *testing.T) {
	for _, course := range hostile {
		for _, fret := range hostile {
			pl := api.Place{Course: course, Fret: fret}
			want := api.OK
			switch {
			case course < 1 || course > 14:
				want = api.ErrCourse
			case fret < 0 || fret > 18:
				want = api.ErrFret
			}
			for _, sys := range systems {
				s, e := notation.Symbol(sys, pl)
				if want != api.OK && (s != "" || e != want) {
					t.Errorf("Symbol(%d, %v) = %q, %d, want %d", sys, pl, s, e, want)
				}
			}
			for _, sys := range noSystems() {
				if s, e := notation.Symbol(sys, pl); s != "" || e != api.ErrSystem {
					t.Fatalf("Symbol(%d, %v) = %q, %d", sys, pl, s, e)
				}
			}
		}
	}
}

// linesOf are the courses that Place and ParseCell may be asked for.
func linesOf(sys api.System) []int {
	if sys == api.German {
		return []int{0}
	}
	return []int{0, 1, 2, 3, 4, 5, 6}
}

// P3.4: every text of up to two of the bytes of symbols and marks, all symbols, and changed symbols.
func TestPlace(t *testing.T) {
	const letters = "abcdefghijklmnopqrstuvwxyzABCDEFGHIJKLX0123456789/&+-._#* \xff"
	r := rand.New(rand.NewPCG(9, 10))
	texts := []string{"", "////a", "///4", "//// ", "0007", "1111", "é", "aé", "14\x00"}
	for i := range len(letters) {
		texts = append(texts, letters[i:i+1])
		for j := range len(letters) {
			texts = append(texts, letters[i:i+1]+letters[j:j+1])
		}
	}
	for _, sys := range systems {
		for _, row := range slices.Concat(rows[sys], outsideRows[sys]) {
			for _, symbol := range strings.Fields(row) {
				texts = append(texts, symbol, changedText(r, symbol, letters))
			}
		}
	}
	for _, sys := range systems {
		for _, course := range linesOf(sys) {
			known := placesAt(sys, course)
			for _, text := range texts {
				pl, e := notation.Place(sys, course, text)
				want, ok := known[text]
				if ok && (pl != want || e != api.OK) || !ok && (pl != (api.Place{}) || e != api.ErrForm) {
					t.Errorf("Place(%d, %d, %q) = %v, %d, want %v", sys, course, text, pl, e, want)
				}
			}
		}
	}
	if pl, e := notation.Place(api.German, 0, "&"); pl != (api.Place{Course: 2, Fret: 5}) || e != api.OK {
		t.Errorf("Place(German, 0, &) = %v, %d", pl, e)
	}
}

// P3.4: the errors and their order.
func TestPlaceErrors(t *testing.T) {
	for _, course := range hostile {
		for _, text := range []string{"a", "0", "", "??"} {
			for _, sys := range systems {
				pl, e := notation.Place(sys, course, text)
				if !slices.Contains(linesOf(sys), course) && (pl != (api.Place{}) || e != api.ErrCourse) {
					t.Errorf("Place(%d, %d, %q) = %v, %d", sys, course, text, pl, e)
				}
			}
			for _, sys := range noSystems() {
				if pl, e := notation.Place(sys, course, text); pl != (api.Place{}) || e != api.ErrSystem {
					t.Fatalf("Place(%d, %d, %q) = %v, %d", sys, course, text, pl, e)
				}
			}
		}
	}
}

// wantCell is the cell of a stop that may have any fields.
func wantCell(sys api.System, st api.Stop, longest int) (string, api.Errno) {
	switch {
	case st.Course < 1 || st.Course > 14:
		return "", api.ErrCourse
	case st.Fret < 0 || st.Fret > 18:
		return "", api.ErrFret
	case st.Right < 0 || st.Right > 3 || st.Grace < 0 || st.Grace > 4:
		return "", api.ErrMark
	case longest < 0 || longest > 15 || st.Hold < 0 || st.Hold > longest || st.Fret == 0 && st.Hold != 0:
		return "", api.ErrHold
	case len(lackOf(sys, st, longest)) > 0:
		return "", api.ErrCannot
	}
	return cellOf(sys, st, longest), api.OK
}

// P3.6: all fields in and around their ranges.
func TestCell(t *testing.T) {
	longests := []int{-1, 0, 1, 2, 9, 10, 15, 16}
	for _, sys := range systems {
		for _, course := range []int{0, 1, 2, 6, 7, 8, 10, 11, 14, 15} {
			for _, fret := range []int{-1, 0, 1, 5, 6, 9, 10, 11, 18, 19} {
				for right := -1; right <= 4; right++ {
					for grace := -1; grace <= 5; grace++ {
						for _, hold := range []int{-1, 0, 1, 2, 9, 10, 15, 16} {
							st := api.Stop{Course: course, Fret: fret, Right: right, Grace: grace, Hold: hold}
							for _, longest := range longests {
								want, fault := wantCell(sys, st, longest)
								if s, e := notation.Cell(sys, st, longest); s != want || e != fault {
									t.Fatalf("Cell(%d, %v, %d) = %q, %d, want %q, %d", sys, st, longest, s, e, want, fault)
								}
							}
						}
					}
				}
			}
		}
	}
}

// P3.6: cells that are written out, and every error before the ones behind it.
func TestCellExamples(t *testing.T) {
	for _, c := range []struct {
		sys     api.System
		stop    string
		longest int
		want    string
		e       api.Errno
	}{
		{api.French, "3/0r1", 0, "a.", api.OK},
		{api.French, "2/1h1", 1, "b_1", api.OK},
		{api.French, "10/3r3g4h12", 15, "///d'(_12", api.OK},
		{api.French, "14/0r2g2", 3, "7:^", api.OK},
		{api.French, "14/1", 3, "", api.ErrCannot},
		{api.Italian, "1/10r1g1h4", 4, "x.t*", api.OK},
		{api.Italian, "1/10r1g3h4", 5, "", api.ErrCannot},
		{api.Italian, "12/0r1g3", 5, "12.#", api.OK},
		{api.Italian, "1/2g2", 0, "", api.ErrCannot},
		{api.Italian, "1/2r2", 0, "", api.ErrCannot},
		{api.Spanish, "4/10", 7, "x", api.OK},
		{api.Spanish, "4/10r1", 7, "", api.ErrCannot},
		{api.Spanish, "4/10g3", 7, "", api.ErrCannot},
		{api.Spanish, "4/10h7", 7, "", api.ErrCannot},
		{api.Spanish, "7/0", 7, "", api.ErrCannot},
		{api.German, "1/7r1g3h15", 15, "kk.#*", api.OK},
		{api.German, "1/7g1", 15, "", api.ErrCannot},
		{api.German, "7/0", 15, "", api.ErrCannot},
		{api.German, "7/0r4h1", 0, "", api.ErrMark},
		{api.German, "7/0r1h1", 1, "", api.ErrHold},
		{api.German, "7/3h1", 0, "", api.ErrHold},
		{api.German, "7/19r4", 16, "", api.ErrFret},
		{api.German, "15/19r4", 16, "", api.ErrCourse},
		{0, "15/19r4", 16, "", api.ErrSystem},
		{5, "1/0", 0, "", api.ErrSystem},
	} {
		if s, e := notation.Cell(c.sys, stopped(c.stop), c.longest); s != c.want || e != c.e {
			t.Errorf("Cell(%d, %s, %d) = %q, %d, want %q, %d", c.sys, c.stop, c.longest, s, e, c.want, c.e)
		}
	}
}

// cellsAt are all cells that may stand on the line of a course, or outside the staff for 0.
func cellsAt(t *testing.T, sys api.System, course, longest int) map[string]api.Stop {
	t.Helper()
	l := map[string]api.Stop{}
	for _, pl := range placesAt(sys, course) {
		for right := range 4 {
			for grace := range 5 {
				for hold := range longest + 1 {
					st := api.Stop{Course: pl.Course, Fret: pl.Fret, Right: right, Grace: grace, Hold: hold}
					cell, e := wantCell(sys, st, longest)
					if e != api.OK {
						continue
					}
					if other, twice := l[cell]; twice {
						t.Fatalf("%q is the cell of %v and %v", cell, st, other)
					}
					l[cell] = st
				}
			}
		}
	}
	return l
}

// P3.7: all cells, and texts that are changed cells.
func TestParseCell(t *testing.T) {
	const letters = "abckptxABK0123456789/&+-.:',^#(_*t \xff"
	r := rand.New(rand.NewPCG(7, 8))
	for _, sys := range systems {
		for _, course := range linesOf(sys) {
			for _, longest := range []int{0, 1, 2, 15} {
				cells := cellsAt(t, sys, course, longest)
				texts := []string{""}
				for cell := range cells {
					texts = append(texts, cell)
				}
				slices.Sort(texts)
				for _, text := range slices.Clone(texts) {
					texts = append(texts, changedText(r, text, letters))
				}
				for _, text := range texts {
					st, e := notation.ParseCell(sys, course, text, longest)
					want, ok := cells[text]
					if ok && (st != want || e != api.OK) || !ok && (st != (api.Stop{}) || e != api.ErrForm) {
						t.Fatalf("ParseCell(%d, %d, %q, %d) = %v, %d, want %v", sys, course, text, longest, st, e, want)
					}
				}
			}
		}
	}
}

// P3.7: texts that are nearly cells.
func TestParseCellForms(t *testing.T) {
	for _, c := range []struct {
		sys    api.System
		course int
		texts  []string
	}{
		{api.French, 1, []string{"", "j", "u", "/a", "4", "aa", "a..", "a,.", "a_0", "b_0", "b_", "b_01", "b_6", "b_16", "b_1_1", "b_1.", "a_1", "b*", "-", "b-", " b", "b ", "b-1", "b_+1", "b_-1", "B"}},
		{api.French, 0, []string{"", "/", "////a", "/4", "8", "4b", "4_1", "47", "a/", "/a/", "///j", "-"}},
		{api.Italian, 1, []string{"", "10", "11", "00", "0*", "0.*", "1**", "1_1", "1t.", "1,", "1:", "1^", "x0", "X", "-", "1-", "a"}},
		{api.Italian, 0, []string{"", "6", "10", "15", "1", "07", "7*", "77", "xx", "7_1", "-"}},
		{api.Spanish, 1, []string{"", "1.", "1#", "1t", "1*", "1_1", "11", "-"}},
		{api.Spanish, 0, []string{"", "7", "0", "x", "a"}},
		{api.German, 0, []string{"", "j", "u", "w", "aaa", "ab", "55", "++", "AA", "J", "L", "6", "7", "0", "5*", "+*", "at", "a,", "a*.", "a#.", "a_1", "-", "~"}},
	} {
		for _, text := range c.texts {
			if st, e := notation.ParseCell(c.sys, c.course, text, 5); st != (api.Stop{}) || e != api.ErrForm {
				t.Errorf("ParseCell(%d, %d, %q, 5) = %v, %d", c.sys, c.course, text, st, e)
			}
		}
	}
	for _, c := range []struct {
		sys     api.System
		course  int
		text    string
		longest int
		want    string
	}{
		{api.French, 2, "b_1", 1, "2/1h1"},
		{api.French, 2, "b:(_12", 12, "2/1r2g4h12"},
		{api.French, 0, "/c'^_3", 9, "8/2r3g2h3"},
		{api.Italian, 2, "3.t*", 6, "2/3r1g1h6"},
		{api.Italian, 0, "x#", 6, "10/0g3"},
		{api.Spanish, 6, "x", 0, "6/10"},
		{api.German, 0, "99.#*", 15, "1/10r1g3h15"},
		{api.German, 0, "9", 15, "1/5"},
	} {
		if st, e := notation.ParseCell(c.sys, c.course, c.text, c.longest); st != stopped(c.want) || e != api.OK {
			t.Errorf("ParseCell(%d, %d, %q, %d) = %v, %d, want %s", c.sys, c.course, c.text, c.longest, st, e, c.want)
		}
	}
}

// P3.7: the errors and their order.
func TestParseCellErrors(t *testing.T) {
	for _, course := range hostile {
		for _, longest := range hostile {
			for _, text := range []string{"a", "??"} {
				for _, sys := range systems {
					want := api.OK
					switch {
					case !slices.Contains(linesOf(sys), course):
						want = api.ErrCourse
					case longest < 0 || longest > 15:
						want = api.ErrHold
					case text == "??":
						want = api.ErrForm
					}
					st, e := notation.ParseCell(sys, course, text, longest)
					if want != api.OK && (st != (api.Stop{}) || e != want) {
						t.Errorf("ParseCell(%d, %d, %q, %d) = %v, %d, want %d", sys, course, text, longest, st, e, want)
					}
				}
				for _, sys := range []api.System{0, 5, 255} {
					if st, e := notation.ParseCell(sys, course, text, longest); st != (api.Stop{}) || e != api.ErrSystem {
						t.Fatalf("ParseCell(%d, %d, %q, %d) = %v, %d", sys, course, text, longest, st, e)
					}
				}
			}
		}
	}
}

// P3.14
func TestSymbolsThereAndBack(t *testing.T) {
	for _, sys := range systems {
		seen := map[string]api.Place{}
		for course := 1; course <= 14; course++ {
			for fret := range 19 {
				pl := api.Place{Course: course, Fret: fret}
				s, e := notation.Symbol(sys, pl)
				if e != api.OK {
					continue
				}
				stands := course
				if course > 6 || sys == api.German {
					stands = 0
				}
				if back, e := notation.Place(sys, stands, s); back != pl || e != api.OK {
					t.Errorf("Place(%d, %d, %q) = %v, %d, not %v", sys, stands, s, back, e, pl)
				}
				key := string(rune('0'+stands)) + s
				if other, twice := seen[key]; twice {
					t.Errorf("system %d: %q means %v and %v", sys, s, other, pl)
				}
				seen[key] = pl
			}
		}
	}
}
