package desk_test

import (
	"math"
	"slices"
	"strings"
	"testing"

	"palantype/api"
	"palantype/desk"
)

// holdBars holds that Bars returns these numbers.
func holdBars(t *testing.T, lines []string, line int, want ...int) {
	t.Helper()
	if l, e := desk.Bars(lines, line); !slices.Equal(l, want) || e != api.OK {
		t.Fatalf("Bars of %q, %d: %v, %v, not %v", lines, line, l, e, want)
	}
}

// holdNoBars holds that Bars returns the error, and nothing else.
func holdNoBars(t *testing.T, lines []string, line int, want api.Errno) {
	t.Helper()
	if l, e := desk.Bars(lines, line); l != nil || e != want {
		t.Fatalf("Bars of %q, %d: %v, %v, not %v", lines, line, l, e, want)
	}
}

// holdShown holds that a reader is shown this, with blanks between the texts.
func holdShown(t *testing.T, lines []string, year int, may []int, want string) {
	t.Helper()
	if l, e := desk.Shown(lines, year, may); !slices.Equal(l, strings.Fields(want)) || e != api.OK {
		t.Fatalf("Shown of %q, %d, %v: %q, %v, not %q", lines, year, may, l, e, want)
	}
}

// holdNotShown holds that Shown returns the error, and nothing else.
func holdNotShown(t *testing.T, lines []string, year int, may []int, want api.Errno) {
	t.Helper()
	if l, e := desk.Shown(lines, year, may); l != nil || e != want {
		t.Fatalf("Shown of %q, %d, %v: %q, %v, not %v", lines, year, may, l, e, want)
	}
}

// holdReport holds that Report returns this.
func holdReport(t *testing.T, lines []string, want string) {
	t.Helper()
	if text, e := desk.Report(lines); text != want || e != api.OK {
		t.Fatalf("Report of %q: %q, %v, not %q", lines, text, e, want)
	}
}

// tooLarge are lists of lines that are no sessions.
func tooLarge() [][]string {
	return [][]string{slices.Repeat([]string{"day 1"}, 61), {"day 1", strings.Repeat("x", 401)}, {"say 1 " + strings.Repeat("é", 200)}}
}

// P12.2: the examples of the chapter, and what follows from them.
func TestP12_2BarsExample(t *testing.T) {
	holdBars(t, sitting(), 11, 10)
	for line := range 18 {
		if line != 11 {
			holdBars(t, sitting(), line)
		}
	}
}

// P12.2: lines that bar a line, for each error.
func TestP12_2Bars(t *testing.T) {
	for _, x := range []struct {
		lines string
		want  []int
	}{
		// ErrForm: whatever is left out, it is refused.
		{"day 1;say 1 x;x", nil},
		{"day 1;day x", nil},
		{"result;result", nil},
		// ErrRange: a day that is behind.
		{"day 5;day 4", []int{0}},
		{"day 5;day 6;day 4", nil},
		{"day 3;day 6;day 4", []int{1}},
		{"day 3;day 3;day 6;day 3", []int{2}},
		{"house 4;house 5;divide 0 0 0 1;tell 1 0 4", nil},
		{"house 9;house 4;divide 0 0 0 1;tell 1 0 4", []int{1}},
		// ErrState: the volume is bound, or the day is that on which it was.
		{"say 1 x;bind 1 1 10;say 2 y", []int{1}},
		{"bind 1 1 10;bind 2 2 10", []int{0}},
		{"bind 0 1 10;bind 1 1 10;bind 2 2 10", []int{1}},
		{"say 1 x;bind 1 1 10;say 1 y", nil}, // the anchor is there as well
		{"say 1 x;bind 1 1 10;change 1 1 y", nil},
		{"say 1 x;day 5;bind 1 1 10;change 1 1 y", nil},
		{"move a;bind 1 1 10;order 1", []int{1}},
		{"move a;order 1;order 2", []int{1}},
		{"house 5;divide 0 0 0 1;house 6", []int{0, 1}}, // without a House there is no division
		{"house 5;house 4;divide 0 0 0 1;house 6", []int{2}},
		{"house 5;divide 0 0 0 1;divide 1 0 0 1", []int{1}},
		{"house 5;divide 0 0 0 1;result;result", []int{2}},
		{"house 5;divide 0 0 0 1;result;tell 1 0 0", []int{2}},
		{"house 5;divide 0 0 0 1;result;pair 0 1", []int{2}},
		{"move a;move b", []int{0}},
		{"move a;order 1;adopt 2", nil},
		{"move a;paper 2 0 0 0 x;order 1;adopt 2", []int{2}},
		{"move a;order 1;paper 2 0 0 0 x", []int{1}},
		{"move a;paper 2 0 0 0 x;paper 3 2 0 0 y;paper 2 3 0 0 z", nil},
		// ErrTwice: what is there already.
		{"say 1 x;say 1 y", []int{0}},
		{"say 1 x;say 1 y;say 1 z", nil},      // without the first one the second one is accepted
		{"say 1 x;say 0 y;say 1 z", []int{0}}, // the second one is refused, and bars nothing
		{"say 1 x;day 1;say 2 y;say 2 z", []int{2}},
		{"move a;order 1;say 1 x", []int{0, 1}}, // without the motion there is no order
		{"house 5;divide 0 0 0 1;tell 1 0 3;tell 1 0 2;tell 1 0 3", []int{2}},
		{"move a;paper 1 0 0 0 x;adopt 1;adopt 1", []int{2}},
		{"move a;paper 1 0 0 0 x;paper 1 0 0 1 y", []int{1}},
		{"say 1 x;bind 1 1 10;day 1;change 1 1 y;change 1 1 z", []int{3}},
		{"say 1 x;bind 1 1 10;day 1;add 1 1 2 y;add 2 1 2 z", []int{3}},
		// ErrArg: members who are in a pair, and a House.
		{"house 5;divide 0 0 0 1;pair 0 1;pair 1 2", []int{2}},
		{"house 5;divide 0 0 0 1;pair 0 1;pair 2 3;pair 0 2", nil}, // two bar it together
		{"house 6;house 3;divide 0 0 0 1;pair 0 3", []int{1}},
		// ErrNone, ErrGap, ErrFail: another line may be what bars it.
		{"say 1 x;hide 2 0 1", nil},
		{"house 5;divide 0 0 0 2;tell 1 0 0;result", []int{2}},
		{"house 5;divide 0 0 0 2;tell 1 0 0;tell 1 1 1;result", nil},
		// Who is on three lists has voted where both tellers say so.
		{"house 3;divide 0 0 0 2;tell 1 0 0;tell 1 1 0;tell 2 0 0;tell 2 1 0;result", []int{2, 3, 4, 5}},
		{"house 3;divide 0 0 0 1;tell 1 0 0;tell 1 1 0;tell 2 0 0;tell 2 1 0;tell 1 0 1;result", []int{4, 5}}, // if 0 votes No, 1 makes a tie, or not
		{"house 3;divide 0 0 4 2;tell 1 0 0;tell 1 1 0;tell 2 0 0;tell 2 1 0;result", []int{2, 3, 4, 5}},
		{"move a;paper 1 0 0 1 b;paper 2 0 0 1 c;adopt 1;adopt 2", []int{1, 3}},
		{"move a;paper 1 0 0 1 b;paper 2 1 0 0 c;adopt 2", nil},
	} {
		lines := split(x.lines)
		holdBars(t, lines, len(lines)-1, x.want...)
		if want := barsOf(lines, len(lines)-1); !slices.Equal(want, x.want) {
			t.Fatalf("the test has %v for %q", want, lines)
		}
		// What stands behind the line does not matter.
		holdBars(t, append(lines, "day 99999", "say 1 x", "x"), len(lines)-1, x.want...)
	}
}

// P12.2: limits of what there may be.
func TestP12_2BarsLimits(t *testing.T) {
	thirty := each("say %d x", 1, 30)
	var all []int
	for i := range 30 {
		all = append(all, i)
	}
	holdBars(t, append(thirty, "say 31 x"), 30, all...)
	holdBars(t, append(thirty, "say 31 x", "say 32 x"), 31) // without another one the line ahead is accepted
	holdBars(t, append(thirty, "say 7 x"), 30, 6)
	eight := append(split("house 40;divide 0 0 0 2"), each("tell 2 0 %d", 0, 8)...)
	holdBars(t, append(eight, "result"), 11, 2, 3, 4, 5, 6, 7, 8, 9, 10)
	twelve := append(split("say 1 x"), slices.Repeat([]string{"hide 1 1 5"}, 12)...)
	holdBars(t, append(twelve, "hide 1 2 3"), 13, 1, 2, 3, 4, 5, 6, 7, 8, 9, 10, 11, 12)
	sixty := append([]string{"day 9"}, slices.Repeat([]string{"day 8"}, 59)...)
	holdBars(t, sixty, 59, 0)
}

// P12.2: lines that there are not, and sessions that are none.
func TestP12_2BarsRefused(t *testing.T) {
	for _, line := range []int{-1, 18, 19, 60, math.MinInt, math.MaxInt, 1 << 32, -1 << 32} {
		holdNoBars(t, sitting(), line, api.ErrRange)
	}
	for _, line := range []int{0, 1, -1} {
		holdNoBars(t, nil, line, api.ErrRange)
		holdNoBars(t, []string{}, line, api.ErrRange)
		for _, lines := range tooLarge() {
			holdNoBars(t, lines, line, api.ErrLimit)
		}
	}
	holdNoBars(t, slices.Repeat([]string{"day 1"}, 61), 61, api.ErrLimit)
}

// P12.2: all lines of sessions of all kinds.
func TestP12_2BarsMany(t *testing.T) {
	d := dice(2)
	barred, counts := 0, map[int]int{}
	for i := range 400 {
		lines := d.session(d.roll(1, 18))
		if i%5 == 0 {
			lines = d.bound(d.roll(12, 24))
		}
		lines = d.repeated(lines)
		for line := range lines {
			want := barsOf(lines, line)
			holdBars(t, lines, line, want...)
			counts[min(len(want), 2)]++
			barred += len(want)
		}
	}
	if barred < 500 || counts[1] < 400 || counts[2] < 15 {
		t.Errorf("%d lines are barred, %v", barred, counts)
	}
}

// hidden is a session in which much is hidden.
func hidden() []string {
	return split("say 5 a;say 2 b;day 1;say 7 c;say 1 d;say 10 e;say 4 f;hide 2 1 1950;hide 7 1 1960;hide 4 2 1970;hide 7 3 1940;hide 5 0 0")
}

// P12.3: the example of the chapter.
func TestP12_3ShownExample(t *testing.T) {
	holdShown(t, sitting(), 1980, nil, "* 12")
	holdShown(t, sitting(), 1980, []int{2}, "11 12")
	holdShown(t, sitting(), 1989, nil, "* 12")
	holdShown(t, sitting(), 1990, nil, "11 12")
	holdShown(t, sitting(), 1980, []int{0, 1, 3, 4, 5, 6, 7}, "* 12")
}

// P12.3: what readers are shown of a draft, by their years and kinds.
func TestP12_3Shown(t *testing.T) {
	holdShown(t, nil, 0, nil, "")
	holdShown(t, []string{}, 9999, []int{}, "")
	holdShown(t, []string{"day 4", "x"}, 1, nil, "")
	for _, x := range []struct {
		year int
		may  []int
		want string
	}{
		{1939, nil, "5 * 1 10 *"}, {1940, nil, "5 * 1 10 *"}, {1949, nil, "5 * 1 10 *"}, {1950, nil, "5 2 * 1 10 *"}, {1959, nil, "5 2 * 1 10 *"}, {1960, nil, "5 2 7 1 10 *"}, {1969, nil, "5 2 7 1 10 *"}, {1970, nil, "5 2 7 1 10 4"},
		{0, nil, "5 * 1 10 *"}, {9999, nil, "5 2 7 1 10 4"},
		{1939, []int{1}, "5 2 * 1 10 *"}, {1940, []int{1}, "5 2 7 1 10 *"}, {1939, []int{1, 3}, "5 2 7 1 10 *"}, {1939, []int{3}, "5 * 1 10 *"}, {1939, []int{2}, "5 * 1 10 4"}, {1939, []int{1, 2, 3}, "5 2 7 1 10 4"}, {1939, []int{0, 4, 5, 6, 7}, "5 * 1 10 *"},
	} {
		holdShown(t, hidden(), x.year, x.may, x.want)
		// Bound it is the same, on the day and on later ones.
		holdShown(t, append(hidden(), "bind 1 1 10"), x.year, x.may, x.want)
		holdShown(t, append(hidden(), "bind 9 5 20", "day 99999"), x.year, x.may, x.want)
	}
	holdShown(t, append(hidden(), "hide 1 0 9999", "hide 10 7 9999"), 1900, nil, "5 *")
	holdShown(t, append(hidden(), "hide 1 0 9999", "hide 10 7 9999", "hide 5 4 9999"), 1900, nil, "*")
	holdShown(t, append(hidden(), "hide 5 4 9999", "hide 5 5 9999"), 9998, nil, "* 2 7 1 10 4")
	holdShown(t, append(hidden(), "hide 5 4 9999", "hide 5 5 9999"), 9999, nil, "5 2 7 1 10 4")
	holdShown(t, append(hidden(), "hide 5 4 9999", "hide 5 5 9999"), 9998, []int{4}, "* 2 7 1 10 4")
	holdShown(t, append(hidden(), "hide 5 4 9999", "hide 5 5 9999"), 9998, []int{4, 5}, "5 2 7 1 10 4")
}

// P12.3: errata, up to the Day; what is removed is not shown, and hides nothing.
func TestP12_3ShownErrata(t *testing.T) {
	lines := append(hidden(), "bind 1 1 10", "day 5", "remove 1 1", "add 2 10 20 x", "add 3 2 30 y", "hide 30 6 1945", "change 4 5 z", "day 9", "remove 5 7", "hide 1 5 9999")
	holdShown(t, lines[:14], 1900, nil, "5 * 1 10 *")
	holdShown(t, lines[:15], 1900, nil, "5 * 10 *")
	holdShown(t, lines[:16], 1900, nil, "5 * 10 20 *")
	holdShown(t, lines[:17], 1900, nil, "5 * 30 * 10 20 *")
	holdShown(t, lines[:18], 1900, nil, "5 * 10 20 *")
	holdShown(t, lines[:19], 1945, nil, "5 * 30 * 10 20 *")
	holdShown(t, lines, 1900, nil, "5 * 10 20 *")
	holdShown(t, lines, 1945, nil, "5 * 30 10 20 *")
	holdShown(t, lines, 1960, nil, "5 2 30 10 20 *")
	holdShown(t, lines, 9999, nil, "5 2 30 10 20 4")
	// What is hidden, and then removed.
	holdShown(t, split("say 1 x;say 2 y;hide 1 0 50;bind 1 1 10;day 1;remove 1 1"), 0, nil, "2")
	holdShown(t, split("say 1 x;say 2 y;say 3 z;hide 1 0 50;hide 3 0 50;bind 1 1 10;day 1;remove 1 2"), 0, nil, "*")
}

// P12.3: lines that are refused show nothing.
func TestP12_3ShownRefusedLines(t *testing.T) {
	holdShown(t, split("say 1 x;say 1 y;say 0 z;hide 2 0 5;hide 1 8 5;say 2 z;hide 2 0 5"), 1, nil, "1 *")
}

// P12.3: readers that there are not, and sessions that are none.
func TestP12_3ShownRefused(t *testing.T) {
	for _, lines := range [][]string{nil, sitting(), hidden(), {"x"}} {
		for _, year := range []int{-1, 10000, math.MinInt, math.MaxInt, 1 << 32} {
			holdNotShown(t, lines, year, nil, api.ErrRange)
		}
		for _, may := range [][]int{{-1}, {8}, {1, 1}, {2, 1}, {0, 8}, {-1, 0}, {math.MinInt}, {math.MaxInt}, {0, 1, 2, 3, 4, 5, 6, 7, 8}, {0, 256}} {
			holdNotShown(t, lines, 1900, may, api.ErrRange)
		}
		for _, year := range []int{0, 9999} {
			if _, e := desk.Shown(lines, year, []int{0, 1, 2, 3, 4, 5, 6, 7}); e != api.OK {
				t.Fatalf("Shown of %q in %d: %v", lines, year, e)
			}
		}
	}
	for _, lines := range tooLarge() {
		holdNotShown(t, lines, 1900, nil, api.ErrLimit)
		holdNotShown(t, lines, -1, []int{9}, api.ErrLimit)
	}
}

// P12.3: all there may be: fifty paragraphs, and twelve that are hidden.
func TestP12_3ShownLargest(t *testing.T) {
	lines := append(each("say %d x", 1, 30), "bind 1 1 10", "day 1")
	lines = append(lines, each("add %d 30 10%d x", 1, 9)...)
	lines = append(lines, each("add %d 1 5%d x", 10, 19)...)
	lines = append(lines, each("hide %d 0 5", 2, 9)...)
	_, errors := run(t, lines)
	if len(lines) != 59 || slices.ContainsFunc(errors, func(e api.Errno) bool { return e != api.OK }) {
		t.Fatalf("%v", errors)
	}
	holdShown(t, lines, 1, nil, "1 519 518 517 516 515 514 513 512 511 510 * 10 11 12 13 14 15 16 17 18 19 20 21 22 23 24 25 26 27 28 29 30 109 108 107 106 105 104 103 102 101")
}

// P12.3: sessions of all kinds, and readers.
func TestP12_3ShownMany(t *testing.T) {
	d := dice(3)
	gaps, words := 0, 0
	for i := range 1200 {
		lines := d.about(d.roll(1, 40), []string{"say", "say", "say", "hide", "hide", "day"})
		if i%2 == 0 {
			lines = d.bound(d.roll(12, 50))
		}
		s, _ := ran(lines)
		for range 6 {
			year, may := d.roll(0, 9), d.may()
			want := shownIn(s, year, may)
			holdShown(t, lines, year, may, strings.Join(want, " "))
			for _, text := range want {
				if text == "*" {
					gaps++
				} else {
					words++
				}
			}
		}
	}
	if gaps < 3000 || words < 20000 {
		t.Errorf("%d gaps, %d words", gaps, words)
	}
}

// P12.4: the example of the chapter.
func TestP12_4ReportExample(t *testing.T) {
	holdReport(t, sitting(), "day 0 house 5\nvolume 3 errata 0\n11 1.1 1\n12 1.2 2\ncarried\nvol. 3, col. 1, l. 2\n")
	holdReport(t, sitting()[:11], "day 0 house 5\ndraft 1\nmotion 5 papers 1 adopted 1\nopen\n")
}

// P12.4: each line of a report.
func TestP12_4Report(t *testing.T) {
	for lines, want := range map[string]string{
		"":                       "day 0 house 0\ndraft 0\n",
		"x;day -1;say 0 x":       "day 0 house 0\ndraft 0\n",
		"day 99999;house 40":     "day 99999 house 40\ndraft 0\n",
		"say 1 x;day 1;say 2 y":  "day 1 house 0\ndraft 2\n",
		"move ":                  "day 0 house 0\ndraft 0\nmotion 0 papers 0 adopted 0\n",
		"move a b;paper 1 0 0 0": "day 0 house 0\ndraft 0\nmotion 2 papers 0 adopted 0\n",
		"move a b c;paper 9 0 0 0 x;paper 8 9 0 1 y;adopt 9":                             "day 0 house 0\ndraft 0\nmotion 3 papers 2 adopted 1\n",
		"move a;paper 1 0 0 0 x;paper 2 0 0 0 y;adopt 2;adopt 1;paper 3 1 1 1 z;order 1": "day 0 house 0\ndraft 1\n",
		"house 1;divide 0 0 0 1": "day 0 house 1\ndraft 0\nopen\n",
		"house 3;divide 0 0 0 1;result;divide 0 0 0 2;result;divide 0 0 1 1;result;divide 0 0 0 1": "day 0 house 3\ndraft 0\nopen\ncarried\nlost\nvoid\n",
		"bind 99 1 10":          "day 0 house 0\nvolume 99 errata 0\n",
		"say 1 x;hide 1 0 9999": "day 0 house 0\ndraft 1\n",
		"day 2;say 11 The House met at two.;say 12 Prayers.;day 4;say 15 A bill was read.;bind 3 3 10;day 60;change 1 12 Prayers were said.;remove 2 11;add 3 11 20 x":            "day 60 house 0\nvolume 3 errata 3\n11 1.1 3\n12 2.1 1\n15 3.1 2\n",
		"say 7 x;bind 2 1 10;cite 7 2;cite 7 0;day 3;remove 1 7;add 2 7 8 z;cite 8 2;cite 7 1":                                                                                    "day 3 house 0\nvolume 2 errata 2\n7 1.1 1\n7@0\nvol. 2, col. 1, l. 1\n8@3\nvol. 2, 0, par. 1\n",
		"house 4;day 6;say 3 x;move a;paper 1 0 0 0 b;bind 5 60 80;divide 2 0 0 1;result;divide 0 0 0 1;cite 3 1;cite 3 0;day 8;add 1 3 4 y;cite 4 2;hide 4 0 1;adopt 1;result;x": "day 8 house 4\nvolume 5 errata 1\n3 1.1 1\nmotion 1 papers 1 adopted 1\nlost\ncarried\nvol. 5, 6, par. 1\nvol. 5, col. 1, l. 1\n4@8\n",
	} {
		holdReport(t, split(lines), want)
		if s, _ := ran(split(lines)); reportOf(s) != want {
			t.Fatalf("the test has %q for %q", reportOf(s), lines)
		}
	}
	holdReport(t, nil, "day 0 house 0\ndraft 0\n")
	holdReport(t, []string{}, "day 0 house 0\ndraft 0\n")
	// Numbers of several digits.
	lines := append([]string{"day 12345", "house 33"}, each("say 9%d "+strings.Repeat("x", 199), 10, 12)...)
	holdReport(t, append(lines, "bind 10 2 10"), "day 12345 house 33\nvolume 10 errata 0\n910 1.1 20\n911 11.1 20\n912 21.1 20\n")
	holdReport(t, append(lines, "bind 10 13 10"), "day 12345 house 33\nvolume 10 errata 0\n910 1.1 20\n911 2.8 20\n912 4.2 20\n")
}

// P12.4: sessions that are none.
func TestP12_4ReportRefused(t *testing.T) {
	for _, lines := range tooLarge() {
		if text, e := desk.Report(lines); text != "" || e != api.ErrLimit {
			t.Fatalf("Report: %q, %v", text, e)
		}
	}
}

// P12.4: sessions of all kinds.
func TestP12_4ReportMany(t *testing.T) {
	d := dice(4)
	rows := map[string]int{}
	for i := range 1200 {
		lines := d.session(d.roll(1, 50))
		if i%3 == 0 {
			lines = d.bound(d.roll(12, 50))
		}
		s, _ := ran(lines)
		text := reportOf(s)
		holdReport(t, lines, text)
		for _, row := range strings.Split(text, "\n") {
			word, _, _ := strings.Cut(row, " ")
			rows[word]++
		}
	}
	for _, word := range []string{"day", "draft", "volume", "motion", "open", "lost", "carried", "void", "vol."} {
		if rows[word] < 20 {
			t.Errorf("%q is there %d times", word, rows[word])
		}
	}
}
