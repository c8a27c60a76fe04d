package convey_test

import (
	"fmt"
	"math/rand/v2"
	"regexp"
	"slices"
	"strings"
	"testing"

	"theorbo/api"
	"theorbo/convey"
)

// reportable reports whether a Lack is in its ranges.
func reportable(l api.Lack) bool {
	return l.Event >= 0 && l.Event <= 399 && l.Course >= 0 && l.Course <= 14 && l.What >= 1 && l.What <= 8
}

// P4.9: every Lack alone.
func TestReportOfOne(t *testing.T) {
	for event := -1; event <= 400; event++ {
		for course := -1; course <= 15; course++ {
			for what := -1; what <= 9; what++ {
				lack := api.Lack{Event: event, Course: course, What: what}
				want, wantE := fmt.Sprintf("%d %d %s\n", event, course, words[what]), api.OK
				if !reportable(lack) {
					want, wantE = "", api.ErrArg
				}
				if text, e := convey.Report([]api.Lack{lack}); text != want || e != wantE {
					t.Fatalf("Report(%v) = %q, %d", lack, text, e)
				}
				if wantE != api.OK {
					continue
				}
				if l, e := convey.ParseReport(want); !slices.Equal(l, []api.Lack{lack}) || e != api.OK {
					t.Fatalf("ParseReport(%q) = %v, %d", want, l, e)
				}
			}
		}
	}
}

// P4.9: lists of any length.
func TestReport(t *testing.T) {
	r := rand.New(rand.NewPCG(41, 42))
	for count := range 300 {
		var l []api.Lack
		want := ""
		for range count {
			lack := api.Lack{Event: r.IntN(400), Course: r.IntN(15), What: 1 + r.IntN(8)}
			l = append(l, lack)
			want += fmt.Sprintf("%d %d %s\n", lack.Event, lack.Course, words[lack.What])
		}
		if text, e := convey.Report(l); text != want || e != api.OK {
			t.Fatalf("Report(%v) = %q, %d", l, text, e)
		}
		if back, e := convey.ParseReport(want); !slices.Equal(back, l) || e != api.OK {
			t.Fatalf("ParseReport(%q) = %v, %d", want, back, e)
		}
		if count == 0 {
			continue
		}
		l[r.IntN(count)].Event = 400
		if text, e := convey.Report(l); text != "" || e != api.ErrArg {
			t.Fatalf("Report with an event 400 = %q, %d", text, e)
		}
	}
	if text, e := convey.Report([]api.Lack{}); text != "" || e != api.OK {
		t.Errorf("Report of an empty list = %q, %d", text, e)
	}
	for _, x := range hostile {
		for _, y := range hostile {
			for _, lack := range []api.Lack{{Event: x, Course: y, What: 1}, {Event: x, Course: 1, What: y}, {Event: 0, Course: x, What: y}} {
				text, e := convey.Report([]api.Lack{{What: 1}, lack})
				if (e == api.OK) != reportable(lack) || e != api.OK && (e != api.ErrArg || text != "") {
					t.Fatalf("Report(%v) = %q, %d", lack, text, e)
				}
			}
		}
	}
}

var reportForm = regexp.MustCompile(`\A((0|[1-9][0-9]?|[123][0-9][0-9]) ([0-9]|1[0-4]) (note|right|grace|hold|three|sign|tie|rest)\n)*\z`)

// P4.9: texts that are no reports.
func TestParseReportErrors(t *testing.T) {
	for _, text := range []string{
		"0 1 note", "\n", " ", "0 1 note\n\n", "\n0 1 note\n", "0 1 note\n ", "0 1 note\n0 1 note",
		" 0 1 note\n", "0 1 note \n", "0  1 note\n", "0 1  note\n", "0\t1 note\n", "0 1 note\r\n", "0 1 note\x00\n",
		"0 1\n", "0 note\n", "note\n", "0 1 1 note\n", "0 1 note note\n", "0 1 \n", "  note\n",
		"00 1 note\n", "0 01 note\n", "+0 1 note\n", "0 +1 note\n", "-0 1 note\n", "-1 1 note\n", "0 -1 note\n", "0x0 1 note\n", "1_0 1 note\n", "1.0 1 note\n",
		"400 1 note\n", "0 15 note\n", "99999999999999999999999999 1 note\n", "0 18446744073709551617 note\n",
		"0 1 Note\n", "0 1 notes\n", "0 1 not\n", "0 1 2\n", "\u0660 1 note\n", "0 1 note\n0 1 note\n400 1 note\n",
	} {
		if l, e := convey.ParseReport(text); len(l) > 0 || e != api.ErrForm {
			t.Errorf("ParseReport(%q) = %v, %d", text, l, e)
		}
	}
	if l, e := convey.ParseReport(""); len(l) > 0 || e != api.OK {
		t.Errorf("ParseReport of nothing = %v, %d", l, e)
	}
}

// P4.9: reports with some bytes changed.
func TestParseReportChanged(t *testing.T) {
	const letters = "0123459 +-nore\n\r"
	r := rand.New(rand.NewPCG(43, 44))
	met := map[bool]int{}
	for range 20000 {
		b := []byte(fmt.Sprintf("%d %d %s\n", r.IntN(400), r.IntN(15), words[1+r.IntN(8)]))
		b = append(b, b[:len(b)*r.IntN(2)]...)
		for range 1 + r.IntN(2) {
			b[r.IntN(len(b))] = letters[r.IntN(len(letters))]
		}
		if r.IntN(4) == 0 {
			b = slices.Insert(b, r.IntN(len(b)), letters[r.IntN(len(letters))])
		}
		text := string(b)
		formed := reportForm.MatchString(text)
		met[formed]++
		l, e := convey.ParseReport(text)
		if formed != (e == api.OK) || !formed && (e != api.ErrForm || len(l) > 0) {
			t.Fatalf("ParseReport(%q) = %v, %d", text, l, e)
		}
		if back, _ := convey.Report(l); formed && (back != text || len(l) != strings.Count(text, "\n")) {
			t.Fatalf("ParseReport(%q) = %v", text, l)
		}
	}
	if met[true] < 1000 || met[false] < 1000 {
		t.Errorf("%v", met)
	}
}
