package notation_test

import (
	"testing"

	"theorbo/api"
	"theorbo/notation"
)

// timeWords are the time words of all valid signs.
func timeWords() map[string]api.Sign {
	l := map[string]api.Sign{"-": {}}
	for i, letter := range []string{"B", "S", "M", "C", "Q", "X", "D"} {
		l[letter] = api.Sign{Value: i + 1}
		l[letter+"."] = api.Sign{Value: i + 1, Dot: true}
		l[letter+"3"] = api.Sign{Value: i + 1, Three: true}
	}
	return l
}

// hasWord reports whether a system has a word for a valid sign.
func hasWord(sys api.System, s api.Sign) bool {
	return sys != api.German || s.Value > 0 && !s.Three
}

// P3.5
func TestTime(t *testing.T) {
	words := timeWords()
	if len(words) != 22 {
		t.Fatalf("%d time words", len(words))
	}
	for _, sys := range systems {
		for want, s := range words {
			word, e := notation.Time(sys, s)
			if hasWord(sys, s) && (word != want || e != api.OK) {
				t.Errorf("Time(%d, %v) = %q, %d, want %q", sys, s, word, e, want)
			}
			if !hasWord(sys, s) && (word != "" || e != api.ErrCannot) {
				t.Errorf("Time(%d, %v) = %q, %d", sys, s, word, e)
			}
		}
	}
}

// P3.5: the errors of Time and their order.
func TestTimeErrors(t *testing.T) {
	bad := []api.Sign{{Dot: true}, {Three: true}, {Dot: true, Three: true}, {Value: 3, Dot: true, Three: true}}
	for _, value := range hostile {
		if value < 0 || value > 7 {
			bad = append(bad, api.Sign{Value: value}, api.Sign{Value: value, Three: true})
		}
	}
	for _, s := range bad {
		for _, sys := range systems {
			if word, e := notation.Time(sys, s); word != "" || e != api.ErrSign {
				t.Errorf("Time(%d, %v) = %q, %d", sys, s, word, e)
			}
		}
		for _, sys := range noSystems() {
			if word, e := notation.Time(sys, s); word != "" || e != api.ErrSystem {
				t.Errorf("Time(%d, %v) = %q, %d", sys, s, word, e)
			}
		}
	}
}

// P3.5: every text of up to three of the bytes that matter, and some others.
func TestParseTime(t *testing.T) {
	words := timeWords()
	texts := []string{""}
	for from := 0; len(texts) < 6000; from++ {
		for _, letter := range "-BSMCQXDbs.3 1~%|\xff" {
			texts = append(texts, texts[from]+string(letter))
		}
	}
	texts = append(texts, "\xff", "B\xff", "\x00", "B.3.", "é", "C\n")
	for _, sys := range systems {
		found := 0
		for _, text := range texts {
			s, e := notation.ParseTime(sys, text)
			want, known := words[text]
			if known && hasWord(sys, want) {
				found++
				if s != want || e != api.OK {
					t.Errorf("ParseTime(%d, %q) = %v, %d", sys, text, s, e)
				}
			} else if s != (api.Sign{}) || e != api.ErrForm {
				t.Errorf("ParseTime(%d, %q) = %v, %d", sys, text, s, e)
			}
		}
		if want := map[bool]int{false: 22, true: 14}[sys == api.German]; found != want {
			t.Errorf("system %d: %d time words found", sys, found)
		}
	}
	for _, sys := range noSystems() {
		for _, text := range []string{"C", "-", "", "x"} {
			if s, e := notation.ParseTime(sys, text); s != (api.Sign{}) || e != api.ErrSystem {
				t.Errorf("ParseTime(%d, %q) = %v, %d", sys, text, s, e)
			}
		}
	}
}
