package mend_test

import (
	"math"
	"slices"
	"strconv"
	"strings"
	"testing"

	"palantype/api"
	"palantype/mend"
)

// numbered returns so many texts: each has this letter ahead of a number.
func numbered(letter string, many int) []string {
	var l []string
	for i := range many {
		l = append(l, letter+strconv.Itoa(i))
	}
	return l
}

// listed returns a lexicon with so many entries of each kind, and so many
// variants of each name.
func listed(numbers, names, variants, nots int) mend.Lexicon {
	l := mend.Lexicon{Nots: numbered("x", nots)}
	for i, text := range numbered("n", numbers) {
		l.Numbers = append(l.Numbers, mend.Number{Text: text, Value: i})
	}
	for i := range names {
		l.Names = append(l.Names, numbered("m"+strconv.Itoa(i)+"v", variants))
	}
	return l
}

// noTexts returns texts that are none.
func noTexts() []string {
	return []string{"", strings.Repeat("x", api.MaxWord+1), strings.Repeat("x", 5000), "a b", " ", "\x7f", "a\n", "\x00a", "\u00e9", "a\xff", "\x20", "\x80"}
}

// wrongLexicons returns lexicons that are not as described.
func wrongLexicons() []mend.Lexicon {
	l := []mend.Lexicon{
		listed(api.MaxEntries+1, 0, 0, 0), listed(0, api.MaxEntries+1, 1, 0), listed(0, 0, 0, api.MaxEntries+1),
		listed(1000, 0, 0, 0), listed(0, 1000, 1, 0), listed(0, 0, 0, 1000),
		listed(0, 1, api.MaxVariants+1, 0), listed(0, 1, 1000, 0), listed(0, 1, 0, 0), listed(0, 40, 0, 0),
		{Names: [][]string{{"a"}, {}}}, {Names: [][]string{nil, {"a"}}}, {Names: [][]string{{"a"}, numbered("b", 6)}},
	}
	for _, n := range []int{-1, api.MaxValue + 1, math.MinInt, math.MaxInt} {
		l = append(l, mend.Lexicon{Numbers: []mend.Number{{Text: "a", Value: n}}}, mend.Lexicon{Numbers: []mend.Number{{Text: "a", Value: 1}, {Text: "b", Value: n}}})
	}
	for _, text := range noTexts() {
		l = append(l,
			mend.Lexicon{Numbers: []mend.Number{{Text: text}}}, mend.Lexicon{Names: [][]string{{text}}}, mend.Lexicon{Nots: []string{text}},
			mend.Lexicon{Numbers: []mend.Number{{Text: "a"}, {Text: text}}}, mend.Lexicon{Names: [][]string{{"a", text}, {"b"}}}, mend.Lexicon{Nots: []string{"a", text}})
	}
	return l
}

// twofold returns lexicons in which a text stands twice, and that are as
// described otherwise.
func twofold() []mend.Lexicon {
	last := listed(40, 40, 5, 40)
	last.Nots[39] = "n0"
	return []mend.Lexicon{
		{Nots: []string{"a", "a"}}, {Nots: []string{"a", "b", "a"}}, {Names: [][]string{{"a", "a"}}}, {Names: [][]string{{"a", "b", "a"}}}, {Names: [][]string{{"a"}, {"a"}}},
		{Numbers: []mend.Number{{Text: "a", Value: 1}, {Text: "a", Value: 1}}}, {Numbers: []mend.Number{{Text: "a", Value: 1}, {Text: "a", Value: 2}}},
		{Numbers: []mend.Number{{Text: "a"}}, Nots: []string{"a"}}, {Numbers: []mend.Number{{Text: "a"}}, Names: [][]string{{"b", "a"}}}, {Names: [][]string{{"b", "a"}}, Nots: []string{"c", "a"}},
		{Numbers: []mend.Number{{Text: "1", Value: 1}}, Nots: []string{"1"}}, last,
	}
}

// P4.1
func TestP4_1CheckLexicon(t *testing.T) {
	every := ""
	for b := byte(33); b <= 126; b++ {
		every += string(b) + " "
	}
	bytes := words(every)
	for _, l := range []mend.Lexicon{
		{}, example(), listed(40, 40, 5, 40), listed(40, 0, 0, 0), listed(0, 40, 1, 0), listed(0, 1, 5, 0), listed(0, 0, 0, 40),
		{Nots: bytes[:40]}, {Nots: bytes[40:80]}, {Nots: bytes[80:]},
		{Nots: []string{strings.Repeat("~", api.MaxWord), "!"}, Numbers: []mend.Number{{Text: strings.Repeat("!", api.MaxWord), Value: api.MaxValue}, {Text: "a", Value: 0}}},
		// Two numbers may say the same, and digits may say something else.
		{Numbers: []mend.Number{{Text: "ten", Value: 10}, {Text: "Ten", Value: 10}, {Text: "10", Value: 11}}, Nots: []string{"0", "007"}},
		{Numbers: []mend.Number{}, Names: [][]string{}, Nots: []string{}},
	} {
		if e := mend.CheckLexicon(l); e != api.OK {
			t.Errorf("CheckLexicon of %v: %v", l, e)
		}
	}
	for _, l := range wrongLexicons() {
		if e := mend.CheckLexicon(l); e != api.ErrArg {
			t.Errorf("CheckLexicon of %v: %v", l, e)
		}
		// It is not asked yet whether a text stands twice.
		if len(l.Nots) < 40 {
			l.Nots = append(slices.Clone(l.Nots), "twice", "twice")
			if e := mend.CheckLexicon(l); e != api.ErrArg {
				t.Errorf("CheckLexicon of %v: %v", l, e)
			}
		}
	}
	for _, l := range twofold() {
		if e := mend.CheckLexicon(l); e != api.ErrTwice {
			t.Errorf("CheckLexicon of %v: %v", l, e)
		}
	}
}

// wrongReports returns reports that are not as described.
func wrongReports() []mend.Report {
	l := []mend.Report{{Words: make([]mend.Said, 1)}, {Words: slices.Repeat(said("a1"), api.MaxReport+1)}, {Words: slices.Repeat(said("a1"), 1000)}}
	for _, n := range []int{-1, api.MaxMinute + 1, math.MinInt, math.MaxInt} {
		l = append(l, report("a1", n, 0), report("a1", 0, n), report("", n, 0), report("", 0, n))
	}
	for _, n := range []int{-1, api.MaxMember + 1, math.MinInt, math.MaxInt} {
		l = append(l, mend.Report{Words: []mend.Said{{Text: "a", Speaker: n}}}, mend.Report{Words: []mend.Said{{Text: "a"}, {Text: "b", Speaker: n}}})
	}
	for _, text := range noTexts() {
		l = append(l, mend.Report{Words: []mend.Said{{Text: text}}}, mend.Report{Words: []mend.Said{{Text: "a"}, {Text: text}, {Text: "b"}}})
	}
	return l
}

// P4.1
func TestP4_1CheckReport(t *testing.T) {
	for _, r := range []mend.Report{
		{}, {Words: []mend.Said{}}, report("Smith1 paid1 ten1 yes2", 100, 60), report("a0 a0 a9 a0", 0, 0),
		report("", api.MaxMinute, api.MaxMinute), report("a1", api.MaxMinute, 0), report("a1", 0, api.MaxMinute),
		{Words: []mend.Said{{Text: "!", Speaker: api.MaxMember}, {Text: strings.Repeat("~", api.MaxWord)}}},
		{Words: slices.Repeat(said("a1 b2"), 40)},
	} {
		if e := mend.CheckReport(r); e != api.OK {
			t.Errorf("CheckReport of %v: %v", r, e)
		}
	}
	for _, r := range wrongReports() {
		if e := mend.CheckReport(r); e != api.ErrArg {
			t.Errorf("CheckReport of %v: %v", r, e)
		}
	}
}

// P4.1
func TestP4_1Sense(t *testing.T) {
	digits := mend.Lexicon{Numbers: []mend.Number{{Text: "8", Value: 80}, {Text: "007", Value: 7}, {Text: "1234567890", Value: 5}}, Names: [][]string{{"Ann"}, {"7", "Bob"}}, Nots: []string{"0", "!"}}
	for _, x := range []struct {
		l     mend.Lexicon
		texts string
		want  []mend.Mark
	}{
		// The example of the chapter.
		{example(), "Smyth did not pay ten 007 8", []mend.Mark{name(0), not(), number(10), number(8)}},
		{example(), "", nil},
		{example(), "did pay", nil},
		{example(), "Jones Smith Smyth Jones", []mend.Mark{name(1), name(0), name(0), name(1)}},
		{example(), "never not never", []mend.Mark{not(), not(), not()}},
		// Case counts, and parts of texts do not.
		{example(), "Ten smith Not SMITH tens nev nevernot Smith's", nil},
		// What is a number, by its digits.
		{mend.Lexicon{}, "0 1 9 10 100 90 999999999 100000000", []mend.Mark{number(0), number(1), number(9), number(10), number(100), number(90), number(999999999), number(100000000)}},
		{mend.Lexicon{}, "00 01 007 0000000001 1000000000 1234567890 99999999999999999999 000000000", nil},
		{mend.Lexicon{}, "-1 +1 -0 1. 1,000 1e3 0x1 1_0 a1 1a / : 1/2 #1 12345678901234567890123456789012", nil},
		// What the lexicon has of digits means what it says there.
		{digits, "7 8 9 007 0 1234567890 00 Ann Bob !", []mend.Mark{name(1), number(80), number(9), number(7), not(), number(5), name(0), name(1), not()}},
		{mend.Lexicon{Numbers: []mend.Number{{Text: "nil", Value: 0}, {Text: "most", Value: api.MaxValue}}}, "nil most", []mend.Mark{number(0), number(api.MaxValue)}},
		{listed(40, 40, 5, 40), "n39 m39v4 x39 n0 m0v0 x0 n40 m40v0 m0v5 x40", []mend.Mark{number(39), name(39), not(), number(0), name(0), not()}},
		{example(), strings.Repeat("not ", api.MaxReport), slices.Repeat([]mend.Mark{not()}, api.MaxReport)},
	} {
		if l, e := mend.Sense(x.l, words(x.texts)); !slices.Equal(l, x.want) || e != api.OK {
			t.Errorf("Sense of %q: %v, %v", x.texts, l, e)
		}
	}
	d := dice(1)
	marks := 0
	for range 3000 {
		l, texts := d.lexicon(), d.texts(0, 20)
		got, e := mend.Sense(l, texts)
		if want := senseOf(l, texts); !slices.Equal(got, want) || e != api.OK {
			t.Fatalf("Sense of %v, %v: %v, %v; not %v", l, texts, got, e, want)
		}
		marks += len(got)
	}
	if marks < 15000 {
		t.Errorf("%d marks", marks)
	}
}

// P4.1: what is refused, in the order of the table of errors.
func TestP4_1SenseRefused(t *testing.T) {
	refused := func(l mend.Lexicon, texts []string, want api.Errno) {
		t.Helper()
		if marks, e := mend.Sense(l, texts); len(marks) != 0 || e != want {
			t.Errorf("Sense of %v, %q: %v, %v; not %v", l, texts, marks, e, want)
		}
	}
	many := slices.Repeat(words("not"), api.MaxReport+1)
	for _, l := range wrongLexicons() {
		refused(l, nil, api.ErrArg)
		refused(l, many, api.ErrArg)
	}
	for _, l := range twofold() {
		refused(l, nil, api.ErrTwice)
		refused(l, many, api.ErrTwice)
		refused(l, []string{""}, api.ErrTwice)
	}
	refused(example(), many, api.ErrLimit)
	refused(example(), make([]string, api.MaxReport+1), api.ErrLimit)
	refused(example(), make([]string, 1000), api.ErrLimit)
	for _, text := range noTexts() {
		refused(example(), []string{text}, api.ErrArg)
		refused(example(), append(many[:api.MaxReport-1:api.MaxReport-1], text), api.ErrArg)
		refused(example(), append(many[:api.MaxReport:api.MaxReport], text), api.ErrLimit)
	}
}

// P4.2
func TestP4_2Trouble(t *testing.T) {
	one := []mend.Swap{swapNumber(1, 2), swapNumber(2, 3), swapName(0, 1)}
	for _, x := range []struct {
		swaps    []mend.Swap
		old, new string
		want     int
	}{
		// The examples of the chapter.
		{tenTo12(), "not ten", "never 12", 0},
		{nil, "not ten", "never 12", 1},
		{nil, "Smith ten", "ten Jones Smith", 3},
		// Nothing, or nothing with marks.
		{nil, "", "", 0}, {nil, "he paid", "", 0}, {nil, "", "he paid", 0}, {nil, "he paid", "she did", 0},
		{nil, "not", "", 1}, {nil, "", "not", 1}, {nil, "not 1 Smith", "", 3}, {nil, "", "not 1 Smith", 3},
		// One mark more, less, or another; at each place.
		{nil, "1 2 3", "2 3", 1}, {nil, "1 2 3", "1 3", 1}, {nil, "1 2 3", "1 2", 1}, {nil, "2 3", "1 2 3", 1}, {nil, "1 3", "1 2 3", 1}, {nil, "1 2", "1 2 3", 1},
		{nil, "1 2 3", "4 2 3", 1}, {nil, "1 2 3", "1 4 3", 1}, {nil, "1 2 3", "1 2 4", 1}, {nil, "1 2", "2 1", 2}, {nil, "1 2 3", "3 1 2", 2}, {nil, "1 2 3", "3 2 1", 2}, {nil, "1 2 3 4", "5 6 7 8", 4},
		// What is the same, and what is not.
		{nil, "ten", "10", 0}, {nil, "Smith", "Smyth", 0}, {nil, "Smith", "Jones", 1}, {nil, "not", "never", 0}, {nil, "0", "not", 1}, {nil, "0", "Smith", 1}, {nil, "Smith", "not", 1}, {nil, "1000000 x", "y million", 0},
		// A swap leads one way, one step, and is of its kind.
		{one, "1", "2", 0}, {one, "2", "1", 1}, {one, "1", "3", 1}, {one, "2", "3", 0}, {one, "3", "1", 1}, {one, "Smith", "Jones", 0}, {one, "Jones", "Smyth", 1}, {one, "0", "1", 1},
		{[]mend.Swap{swapName(1, 0)}, "1", "0", 1}, {[]mend.Swap{swapNumber(1, 0)}, "Jones", "Smith", 1}, {[]mend.Swap{swapNumber(0, 0)}, "not", "0", 1}, {[]mend.Swap{swapNumber(0, 0)}, "0", "not", 1},
		// The same one may be used often, and beside what is the same.
		{one, "1 1 2 not", "2 1 3 never", 0}, {one, "1 1 1", "2 2", 1}, {one, "1 2 1", "2 2", 1}, {one, "1 1", "3 2 2", 1},
		// What may become something is not the other way a mark to put in.
		{one, "3", "1 2 3", 2}, {one, "1", "3 2", 1}, {one, "2 1", "1 2", 1},
		{nil, strings.Repeat("1 ", 80), strings.Repeat("2 ", 80), 80}, {one, strings.Repeat("1 ", 80), strings.Repeat("2 ", 80), 0}, {nil, strings.Repeat("1 2 ", 40), strings.Repeat("2 1 ", 40), 2},
	} {
		if n, e := mend.Trouble(example(), x.swaps, words(x.old), words(x.new)); n != x.want || e != api.OK {
			t.Errorf("Trouble of %q and %q with %v: %d, %v; not %d", x.old, x.new, x.swaps, n, e, x.want)
		}
	}
}

// P4.2: all rows of up to three marks, with swaps of all kinds between them,
// against a search.
func TestP4_2TroubleSmall(t *testing.T) {
	texts := words("1 2 Smith not")
	alphabet := senseOf(example(), texts)
	rows := [][]string{nil}
	for i := 0; len(rows[i]) < 3; i++ {
		for _, text := range texts {
			rows = append(rows, append(slices.Clone(rows[i]), text))
		}
	}
	sums := map[int]int{}
	for _, old := range rows {
		a := senseOf(example(), old)
		ways := waysFrom(a, alphabet, 4)
		for _, swaps := range [][]mend.Swap{nil, {swapNumber(1, 2)}, {swapNumber(1, 2), swapNumber(2, 1)}, {swapName(0, 1), swapNumber(2, 1)}} {
			for _, new := range rows {
				b := senseOf(example(), new)
				want := searchedTrouble(swaps, ways, b)
				if n := troubleOf(swaps, a, b); n != want {
					t.Fatalf("the trouble of %v and %v with %v: %d by search, or %d", old, new, swaps, want, n)
				}
				if n, e := mend.Trouble(example(), swaps, old, new); n != want || e != api.OK {
					t.Fatalf("Trouble of %v and %v with %v: %d, %v; not %d", old, new, swaps, n, e, want)
				}
				sums[want]++
			}
		}
	}
	for n := range 4 {
		if sums[n] < 100 {
			t.Errorf("a trouble of %d: %d times", n, sums[n])
		}
	}
}

// P4.2
func TestP4_2TroubleLarge(t *testing.T) {
	d := dice(2)
	most, swapped := 0, 0
	for i := range 2000 {
		l, swaps := d.lexicon(), d.swaps(20)
		size := 12
		if i%20 == 0 {
			size = api.MaxReport
		}
		old, new := d.texts(0, size-3), d.texts(0, size)
		if d.one(2) {
			new = d.like(world{l: l, swaps: swaps}, old)
		}
		want := troubleOf(swaps, senseOf(l, old), senseOf(l, new))
		if n, e := mend.Trouble(l, swaps, old, new); n != want || e != api.OK {
			t.Fatalf("Trouble of %v, %v, %v, %v: %d, %v; not %d", l, swaps, old, new, n, e, want)
		}
		if want < troubleOf(nil, senseOf(l, old), senseOf(l, new)) {
			swapped++
		}
		most = max(most, want)
	}
	if most < 30 || swapped < 300 {
		t.Errorf("a trouble of %d at most; %d times less by swaps", most, swapped)
	}
}

// wrongSwaps returns swaps that are not as described.
func wrongSwaps() []mend.Swap {
	l := []mend.Swap{{}, {Kind: mend.KindNot}, {Kind: 4}, {Kind: 255}, {Kind: 0, Old: 1, New: 2}}
	for _, n := range []int{-1, api.MaxValue + 1, math.MinInt, math.MaxInt} {
		l = append(l, swapNumber(n, 1), swapNumber(1, n), swapName(n, 1), swapName(1, n))
	}
	return l
}

// P4.2: what is refused, in the order of the table of errors.
func TestP4_2TroubleRefused(t *testing.T) {
	refused := func(l mend.Lexicon, swaps []mend.Swap, old, new []string, want api.Errno) {
		t.Helper()
		if n, e := mend.Trouble(l, swaps, old, new); n != 0 || e != want {
			t.Errorf("Trouble of %v, %v, %q, %q: %d, %v; not %v", l, swaps, old, new, n, e, want)
		}
	}
	few, full, many := words("not ten"), slices.Repeat(words("not"), api.MaxReport), slices.Repeat(words("not"), api.MaxReport+1)
	swaps := slices.Repeat(tenTo12(), api.MaxSwaps)
	for _, l := range wrongLexicons() {
		refused(l, nil, few, nil, api.ErrArg)
		refused(l, make([]mend.Swap, api.MaxSwaps+1), few, many, api.ErrArg)
	}
	for _, l := range twofold() {
		refused(l, nil, few, nil, api.ErrTwice)
		refused(l, make([]mend.Swap, 1), few, many, api.ErrTwice)
		refused(l, make([]mend.Swap, api.MaxSwaps+1), few, many, api.ErrTwice)
	}
	for _, s := range wrongSwaps() {
		refused(example(), append(swaps[:19:19], s), few, nil, api.ErrArg)
		refused(example(), []mend.Swap{s, swaps[0]}, many, many, api.ErrArg)
		refused(example(), append(swaps[:20:20], s), few, nil, api.ErrLimit)
	}
	refused(example(), append(swaps[:20:20], swaps[0]), few, []string{""}, api.ErrLimit)
	refused(example(), make([]mend.Swap, 1000), many, few, api.ErrLimit)
	refused(example(), swaps, many, few, api.ErrLimit)
	refused(example(), swaps, few, many, api.ErrLimit)
	for _, text := range noTexts() {
		refused(example(), swaps, append(few[:2:2], text), few, api.ErrArg)
		refused(example(), swaps, few, append(few[:2:2], text), api.ErrArg)
		refused(example(), swaps, []string{text}, many, api.ErrLimit)
		refused(example(), swaps, many, []string{text}, api.ErrLimit)
	}
	// As much as there may be is not refused, nor is a name that there is not.
	swaps[19] = swapName(0, api.MaxValue)
	swaps[18] = swapNumber(api.MaxValue, 0)
	if n, e := mend.Trouble(example(), swaps, full, full[:79]); n != 1 || e != api.OK {
		t.Errorf("Trouble of %d texts: %d, %v", len(full), n, e)
	}
}
