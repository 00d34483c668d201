package paper_test

import (
	"math"
	"slices"
	"strings"
	"testing"

	"palantype/api"
	"palantype/paper"
)

// holdFault holds that all calls with the motion return the error, and nothing
// else.
func holdFault(t *testing.T, m paper.Motion, want api.Errno) {
	t.Helper()
	if e := paper.CheckMotion(m); e != want {
		t.Fatalf("CheckMotion of %v: %v, not %v", m, e, want)
	}
	if want == api.OK {
		return
	}
	for _, choice := range [][]int{nil, {3}, {5}, {8, 9}, {0}, {3, 3}} {
		if w, o, e := paper.Text(m, choice); len(w) != 0 || len(o) != 0 || e != want {
			t.Fatalf("Text of %v by %v: %v, %v, %v, not %v", m, choice, w, o, e, want)
		}
	}
	if l, e := paper.Clashes(m); len(l) != 0 || e != want {
		t.Fatalf("Clashes of %v: %v, %v, not %v", m, l, e, want)
	}
	if l, e := paper.Order(m); len(l) != 0 || e != want {
		t.Fatalf("Order of %v: %v, %v, not %v", m, l, e, want)
	}
	if l, e := paper.Largest(m); len(l) != 0 || e != want {
		t.Fatalf("Largest of %v: %v, %v, not %v", m, l, e, want)
	}
}

// holdText holds that Text returns these words with these origins.
func holdText(t *testing.T, m paper.Motion, choice []int, want []string, from []paper.Origin) {
	t.Helper()
	if w, o, e := paper.Text(m, choice); !slices.Equal(w, want) || !slices.Equal(o, from) || e != api.OK {
		t.Fatalf("Text of %v by %v: %v, %v, %v; not %v, %v", m, choice, w, o, e, want, from)
	}
}

// holdNoText holds that Text returns the error for the choice.
func holdNoText(t *testing.T, m paper.Motion, choice []int, want api.Errno) {
	t.Helper()
	if w, o, e := paper.Text(m, choice); len(w) != 0 || len(o) != 0 || e != want {
		t.Fatalf("Text of %v by %v: %v, %v, %v; not %v", m, choice, w, o, e, want)
	}
}

// holdChoice holds Text against what the chapter defines, for any list.
func holdChoice(t *testing.T, m paper.Motion, choice []int) api.Errno {
	t.Helper()
	e := faultOfChoice(m, choice)
	if e != api.OK {
		holdNoText(t, m, choice, e)
		return e
	}
	w, o := textOf(m, choice, 0)
	holdText(t, m, choice, w, o)
	return e
}

// chain returns a motion with papers of which each amends the one before.
func chain(papers int) paper.Motion {
	m := motion("a b c")
	for i := range papers {
		m.Papers = append(m.Papers, amends(i+1, i, 1, 2, "a b c"))
	}
	return m
}

// beside returns a motion with papers that put words at its end.
func beside(papers int) paper.Motion {
	m := motion("a")
	for i := range papers {
		m.Papers = append(m.Papers, amends(i+1, 0, 1, 1, "b"))
	}
	return m
}

// P6.1: what is just within the limits.
func TestP6_1CheckMotionAccepts(t *testing.T) {
	full := slices.Repeat([]string{strings.Repeat("~", api.MaxWordBytes)}, api.MaxListed)
	for _, m := range []paper.Motion{
		{}, {Words: []string{}, Papers: []paper.Paper{}}, house(), motion("a"), motion("", amends(1, 0, 0, 0, "")), motion("", amends(999, 0, 0, 0, "a")), motion("! ~ !~"),
		motion("a b", amends(1, 0, 2, 2, "")), motion("a b", amends(1, 0, 0, 2, "")), motion("a b", amends(2, 1, 0, 0, ""), amends(1, 0, 0, 0, "")), motion("", amends(2, 1, 0, 2, ""), amends(1, 0, 0, 0, "a b")), motion("a", amends(1, 999, 0, 0, ""), amends(999, 0, 0, 1, "")),
		// Papers may clash, and may be the same but for their Numbers.
		motion("a", amends(1, 0, 0, 1, "b"), amends(2, 0, 0, 1, "b")),
		chain(1), chain(api.MaxPapers), beside(api.MaxPapers), {Words: full, Papers: slices.Repeat([]paper.Paper{{Number: 7, From: 0, To: api.MaxListed, Words: full}}, 1)},
	} {
		holdFault(t, m, api.OK)
	}
}

// P6.1: what is just outside.
func TestP6_1CheckMotionRefuses(t *testing.T) {
	long, reversed := strings.Repeat("a", api.MaxWordBytes+1), chain(api.MaxPapers+1)
	slices.Reverse(reversed.Papers)
	many := slices.Repeat([]string{"a"}, api.MaxListed+1)
	holdFault(t, chain(api.MaxPapers+1), api.ErrLimit)
	holdFault(t, reversed, api.ErrLimit)
	holdFault(t, beside(2000), api.ErrLimit)
	holdFault(t, paper.Motion{Papers: make([]paper.Paper, api.MaxPapers+1)}, api.ErrLimit)
	holdFault(t, paper.Motion{Words: many}, api.ErrLimit)
	holdFault(t, paper.Motion{Words: make([]string, 10000)}, api.ErrLimit)
	for _, s := range []string{"", " ", "a b", "a ", "\x00", "a\x20", "\x7f", "a\x80", "\xff", "é", "a\n", "\t", long, strings.Repeat(long, 9), strings.Repeat(" ", 21)} {
		holdFault(t, paper.Motion{Words: []string{s}}, api.ErrForm)
		holdFault(t, paper.Motion{Words: []string{"a", s, "b"}}, api.ErrForm)
	}
	for i := range house().Papers {
		change := func(want api.Errno, change func(p *paper.Paper)) {
			t.Helper()
			m := house()
			change(&m.Papers[i])
			holdFault(t, m, want)
		}
		other := house().Papers[(i+1)%5].Number
		change(api.ErrLimit, func(p *paper.Paper) { p.Words = many })
		change(api.ErrForm, func(p *paper.Paper) { p.Words = []string{"a", ""} })
		change(api.ErrForm, func(p *paper.Paper) { p.Words = []string{long} })
		for _, number := range []int{0, -1, 1000, math.MinInt, math.MaxInt} {
			change(api.ErrRange, func(p *paper.Paper) { p.Number = number })
		}
		change(api.ErrTwice, func(p *paper.Paper) { p.Number = other })
		for _, of := range []int{-1, 1, 4, 10, 999, 1000, math.MinInt, math.MaxInt} {
			change(api.ErrNone, func(p *paper.Paper) { p.Of = of })
		}
		change(api.ErrState, func(p *paper.Paper) { p.Of = p.Number })
		limit := len(wordsOf(house(), house().Papers[i].Of))
		for _, x := range [][2]int{{-1, 0}, {-1, -1}, {1, 0}, {limit, limit - 1}, {limit, limit + 1}, {limit + 1, limit + 1}, {limit + 1, limit}, {0, math.MaxInt}, {math.MinInt, 0}, {math.MaxInt, math.MinInt}, {math.MinInt, math.MaxInt}, {math.MaxInt, math.MaxInt}, {math.MinInt, math.MinInt}} {
			change(api.ErrArg, func(p *paper.Paper) { p.From, p.To = x[0], x[1] })
		}
	}
}

// P6.1: circles, also those to which other papers lead, and ways that are long.
func TestP6_1CheckMotionCircles(t *testing.T) {
	of := func(numbers ...int) paper.Motion {
		m := motion("")
		for i, number := range numbers {
			m.Papers = append(m.Papers, amends(i+1, number, 0, 0, ""))
		}
		return m
	}
	for _, x := range []struct {
		m    paper.Motion
		want api.Errno
	}{
		{of(0), api.OK}, {of(1), api.ErrState}, {of(2, 1), api.ErrState}, {of(2, 0), api.OK}, {of(0, 1), api.OK}, {of(0, 2), api.ErrState}, {of(2, 3, 1), api.ErrState}, {of(3, 1, 2), api.ErrState}, {of(0, 3, 2), api.ErrState}, {of(2, 3, 0), api.OK}, {of(2, 3, 2), api.ErrState}, {of(2, 3, 3), api.ErrState}, {of(2, 2, 2), api.ErrState},
		{of(0, 1, 2, 3, 4, 5, 6, 7, 8, 9), api.OK}, {of(2, 3, 4, 5, 6, 7, 8, 9, 10, 0), api.OK}, {of(2, 3, 4, 5, 6, 7, 8, 9, 10, 1), api.ErrState}, {of(10, 1, 2, 3, 4, 5, 6, 7, 8, 9), api.ErrState}, {of(0, 1, 2, 3, 4, 5, 6, 7, 8, 10), api.ErrState}, {of(2, 3, 4, 5, 6, 7, 8, 9, 10, 10), api.ErrState}, {of(0, 1, 2, 3, 4, 7, 8, 9, 10, 6), api.ErrState}, {of(6, 10, 10, 10, 1, 2, 1, 2, 1, 0), api.OK},
	} {
		holdFault(t, x.m, x.want)
	}
}

// P6.1: of two errors the first one is returned, wherever it stands.
func TestP6_1CheckMotionFirstError(t *testing.T) {
	faults := []struct {
		e   api.Errno
		put func(m *paper.Motion, at int)
	}{
		{api.ErrLimit, func(m *paper.Motion, at int) { m.Papers[at].Words = slices.Repeat(words("a"), 61) }},
		{api.ErrForm, func(m *paper.Motion, at int) { m.Papers[at].Words = append(m.Papers[at].Words, "") }},
		{api.ErrRange, func(m *paper.Motion, at int) { m.Papers[at].Number = 1000 }},
		{api.ErrTwice, func(m *paper.Motion, at int) { m.Papers[at].Number = m.Papers[2].Number }},
		{api.ErrNone, func(m *paper.Motion, at int) { m.Papers[at].Of = 77 }},
		{api.ErrState, func(m *paper.Motion, at int) { m.Papers[at].Of = m.Papers[at].Number }},
		{api.ErrArg, func(m *paper.Motion, at int) { m.Papers[at].From = -1 }},
	}
	for i, first := range faults {
		for _, second := range faults[i+1:] {
			for _, at := range [][2]int{{0, 3}, {3, 0}, {1, 4}, {4, 1}} {
				m := house()
				second.put(&m, at[1])
				holdFault(t, m, second.e)
				first.put(&m, at[0])
				holdFault(t, m, first.e)
			}
		}
	}
	m := house()
	m.Words[0], m.Papers = "", slices.Repeat(m.Papers, 3)
	holdFault(t, m, api.ErrLimit)
	m = house()
	m.Words[4], m.Papers[0].Number = "é", 0
	holdFault(t, m, api.ErrForm)
}

// P6.1: all that two papers may be like.
func TestP6_1SmallMotions(t *testing.T) {
	seen := map[api.Errno]int{}
	var all []paper.Paper
	for of := range 4 {
		for from := -1; from <= 3; from++ {
			for to := -1; to <= 3; to++ {
				all = append(all, amends(0, of, from, to, ""))
			}
		}
	}
	for _, p := range all {
		for _, q := range all {
			for _, number := range []int{2, 1} {
				p.Number, p.Words, q.Number = 1, words("a"), number
				m := motion("a b", p, q)
				e := faultOf(m)
				holdFault(t, m, e)
				seen[e]++
			}
		}
	}
	for _, e := range []api.Errno{api.OK, api.ErrTwice, api.ErrNone, api.ErrState, api.ErrArg} {
		if seen[e] < 50 {
			t.Errorf("%v was returned %d times", e, seen[e])
		}
	}
}

// P6.2: the examples of the chapter, and others.
func TestP6_2Text(t *testing.T) {
	for _, x := range []struct {
		choice []int
		want   string
		from   []paper.Origin
	}{
		{nil, "this House notes the report", origins(0, 0, 0, 1, 0, 2, 0, 3, 0, 4)},
		{[]int{3, 5, 8}, "this House welcomes with joy the second report", origins(0, 0, 0, 1, 3, 0, 3, 1, 5, 0, 0, 3, 8, 0, 8, 1)},
		{[]int{2, 8}, "this House notes the long second report", origins(0, 0, 0, 1, 0, 2, 0, 3, 2, 0, 8, 0, 8, 1)},
		{[]int{3, 9}, "this House welcomes with regret it", origins(0, 0, 0, 1, 3, 0, 3, 1, 3, 2, 9, 0)},
		{[]int{2}, "this House notes the long report", origins(0, 0, 0, 1, 0, 2, 0, 3, 2, 0, 0, 4)},
	} {
		holdText(t, house(), x.choice, words(x.want), x.from)
	}
	// All at one place: by To, and then by Number; the list has another order.
	one := motion("a b", amends(7, 0, 1, 2, "x"), amends(6, 0, 1, 1, "y"), amends(4, 0, 1, 1, "z"), amends(1, 0, 0, 1, "w"), amends(5, 0, 1, 1, ""))
	holdText(t, one, []int{1, 4, 5, 6, 7}, words("w z y x"), origins(1, 0, 4, 0, 6, 0, 7, 0))
	holdText(t, one, []int{4, 6}, words("a z y b"), origins(0, 0, 4, 0, 6, 0, 0, 1))
	holdText(t, one, []int{6, 7}, words("a y x"), origins(0, 0, 6, 0, 7, 0))
	// From and To count what was there before.
	moved := motion("a b c", amends(1, 0, 0, 0, "p q r"), amends(2, 0, 1, 2, ""), amends(3, 0, 3, 3, "s"), amends(4, 0, 2, 3, "t u"))
	holdText(t, moved, []int{1, 2, 3, 4}, words("p q r a t u s"), origins(1, 0, 1, 1, 1, 2, 0, 0, 4, 0, 4, 1, 3, 0))
	holdText(t, moved, []int{2, 3}, words("a c s"), origins(0, 0, 0, 2, 3, 0))
	// Nothing of a paper is left, and nothing of the motion.
	gone := motion("a", amends(1, 0, 0, 1, "b c"), amends(2, 1, 0, 2, ""), amends(3, 2, 0, 0, "d"))
	holdText(t, gone, []int{1, 2}, nil, nil)
	holdText(t, gone, []int{1, 2, 3}, words("d"), origins(3, 0))
	holdText(t, paper.Motion{}, nil, nil, nil)
	holdText(t, motion("", amends(1, 0, 0, 0, "a")), []int{1}, words("a"), origins(1, 0))
	holdText(t, chain(3), []int{1, 2, 3}, words("a a a a b c c c c"), origins(0, 0, 1, 0, 2, 0, 3, 0, 3, 1, 3, 2, 2, 2, 1, 2, 0, 2))
}

// P6.2: what is no choice, and the order of its errors.
func TestP6_2TextRefused(t *testing.T) {
	for _, x := range []struct {
		choice []int
		want   api.Errno
	}{
		{[]int{0}, api.ErrRange}, {[]int{-1}, api.ErrRange}, {[]int{1}, api.ErrRange}, {[]int{10}, api.ErrRange}, {[]int{1000}, api.ErrRange}, {[]int{math.MinInt}, api.ErrRange}, {[]int{math.MaxInt}, api.ErrRange}, {[]int{0, 2}, api.ErrRange}, {[]int{-3, 2}, api.ErrRange}, {[]int{2, 4, 8}, api.ErrRange}, {[]int{8, 3}, api.ErrRange}, {[]int{3, 3}, api.ErrRange}, {[]int{2, 8, 3}, api.ErrRange}, {[]int{5, 3}, api.ErrRange}, {[]int{5, 4}, api.ErrRange}, {[]int{2, 9, 9}, api.ErrRange}, {[]int{5, 8, 9, 1000}, api.ErrRange}, {slices.Repeat([]int{2}, 1000), api.ErrRange},
		{[]int{5}, api.ErrGap}, {[]int{2, 5}, api.ErrGap}, {[]int{5, 8, 9}, api.ErrGap}, {[]int{2, 5, 9}, api.ErrGap},
		{[]int{2, 9}, api.ErrFail}, {[]int{8, 9}, api.ErrFail}, {[]int{2, 3, 5, 8, 9}, api.ErrFail}, {[]int{2, 3, 5, 9}, api.ErrFail},
	} {
		holdNoText(t, house(), x.choice, x.want)
	}
	holdNoText(t, paper.Motion{}, []int{1}, api.ErrRange)
	holdNoText(t, paper.Motion{}, []int{0}, api.ErrRange)
	holdNoText(t, chain(10), []int{1, 2, 3, 4, 5, 6, 7, 8, 10}, api.ErrGap)
	holdNoText(t, chain(10), []int{2, 3, 4, 5, 6, 7, 8, 9, 10}, api.ErrGap)
}

// P6.2: all lists of up to three numbers, for the motion of the examples.
func TestP6_2AllLists(t *testing.T) {
	lists := [][]int{nil}
	for from := 0; len(lists[from]) < 3; from++ {
		for _, number := range []int{-1, 0, 1, 2, 3, 4, 5, 8, 9, 10} {
			lists = append(lists, append(slices.Clip(lists[from]), number))
		}
	}
	seen := map[api.Errno]int{}
	for _, l := range lists {
		seen[holdChoice(t, house(), l)]++
	}
	if seen[api.OK] < 12 || seen[api.ErrGap] < 5 || seen[api.ErrFail] < 4 || seen[api.ErrRange] < 1000 {
		t.Errorf("%v", seen)
	}
}

// smallMotions gives all valid motions of two words with three papers, whose
// Numbers are not in the order of the list.
func smallMotions(yield func(paper.Motion) bool) {
	var all []paper.Paper
	for of := range 4 {
		for from := range 3 {
			for to := from; to <= 2; to++ {
				all = append(all, paper.Paper{Of: of, From: from, To: to})
			}
		}
	}
	for _, a := range all {
		for _, b := range all {
			for _, c := range all {
				a.Number, b.Number, c.Number = 2, 3, 1
				a.Words, b.Words, c.Words = words("p q"), words("r"), nil
				m := motion("a b", a, b, c)
				if faultOf(m) == api.OK && !yield(m) {
					return
				}
			}
		}
	}
}

// P6.2: all choices of small motions.
func TestP6_2SmallMotions(t *testing.T) {
	seen := map[api.Errno]int{}
	for m := range smallMotions {
		for _, l := range allSets(m) {
			seen[holdChoice(t, m, l)]++
		}
	}
	if seen[api.OK] < 4000 || seen[api.ErrGap] < 1000 || seen[api.ErrFail] < 100 {
		t.Errorf("%v", seen)
	}
}

// P6.2: larger ones.
func TestP6_2Many(t *testing.T) {
	d := dice(2)
	seen := map[api.Errno]int{}
	length := 0
	for range 4000 {
		m := d.motion(api.MaxPapers)
		choice := d.choice(m)
		w, _ := textOf(m, choice, 0)
		length += len(w)
		holdChoice(t, m, choice)
		for range 3 {
			l := slices.DeleteFunc(numbersOf(m), func(int) bool { return d.one(3) })
			seen[holdChoice(t, m, l)]++
		}
	}
	if seen[api.OK] < 1000 || seen[api.ErrGap] < 1000 || seen[api.ErrFail] < 1000 || length < 20000 {
		t.Errorf("%v, %d words", seen, length)
	}
}

// P6.2: as much as there may be of all things, where all papers amend the motion,
// or each one that before it.
func TestP6_2Large(t *testing.T) {
	full := slices.Repeat([]string{strings.Repeat("~", api.MaxWordBytes)}, api.MaxListed)
	for _, linked := range []bool{false, true} {
		m := paper.Motion{Words: full}
		for i := range api.MaxPapers {
			p := paper.Paper{Number: api.MaxPaper - i, From: 6 * i, To: 6 * i, Words: full}
			if linked && i > 0 {
				p.Of = p.Number + 1
			}
			m.Papers = append(m.Papers, p)
		}
		holdFault(t, m, api.OK)
		if e := holdChoice(t, m, numbersOf(m)); e != api.OK {
			t.Fatalf("Text: %v", e)
		}
		if w, _, _ := paper.Text(m, numbersOf(m)); len(w) != 11*api.MaxListed {
			t.Fatalf("Text: %d words", len(w))
		}
	}
}
