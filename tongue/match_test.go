package tongue_test

import (
	"math"
	"slices"
	"testing"
	"time"

	"palantype/api"
	"palantype/tongue"
)

// holdMatch holds that Match returns the steps and the cost, and Cost the same one.
func holdMatch(t *testing.T, l, r text, want steps, cost int) {
	t.Helper()
	if list, c, e := tongue.Match(l, r); !slices.Equal(list, want) || c != cost || e != api.OK {
		t.Fatalf("Match of %v, %v: %v, %v, %v, not %v, %v", l, r, list, c, e, want, cost)
	}
	holdCost(t, l, r, want, cost)
}

// holdCost holds that Cost returns the cost of a match.
func holdCost(t *testing.T, l, r text, list steps, want int) {
	t.Helper()
	if c, e := tongue.Cost(l, r, list); c != want || e != api.OK {
		t.Fatalf("Cost of %v, %v by %v: %v, %v, not %v", l, r, list, c, e, want)
	}
}

// holdNoMatch holds that all calls that are given steps return the error, and
// nothing else.
func holdNoMatch(t *testing.T, l, r text, list steps, want api.Errno) {
	t.Helper()
	if c, e := tongue.Cost(l, r, list); c != 0 || e != want {
		t.Fatalf("Cost of %v, %v by %v: %v, %v, not %v", l, r, list, c, e, want)
	}
	if d, e := tongue.Differences(l, r, list); len(d) != 0 || e != want {
		t.Fatalf("Differences of %v, %v by %v: %v, %v, not %v", l, r, list, d, e, want)
	}
	for _, lead := range [][]bool{nil, make([]bool, len(l)), make([]bool, len(l)+1)} {
		if p, e := tongue.Counts(l, r, list, lead); len(p) != 0 || e != want {
			t.Fatalf("Counts of %v, %v by %v, %v: %v, %v, not %v", l, r, list, lead, p, e, want)
		}
	}
	if b, n, o, e := tongue.Level(l, r, list); len(b) != 0 || n != 0 || o != 0 || e != want {
		t.Fatalf("Level of %v, %v by %v: %v, %v, %v, %v, not %v", l, r, list, b, n, o, e, want)
	}
}

// holdNoTexts holds that all calls with these texts return the error, and nothing
// else, and that no cost of them is proved.
func holdNoTexts(t *testing.T, l, r text, want api.Errno) {
	t.Helper()
	if list, c, e := tongue.Match(l, r); len(list) != 0 || c != 0 || e != want {
		t.Fatalf("Match of %v, %v: %v, %v, %v, not %v", l, r, list, c, e, want)
	}
	if p, e := tongue.Proof(l, r); len(p) != 0 || e != want {
		t.Fatalf("Proof of %v, %v: %v, %v, not %v", l, r, p, e, want)
	}
	for _, list := range []steps{nil, {step(2, 2)}, slices.Repeat(steps{step(1, 1)}, len(l)), slices.Concat(slices.Repeat(steps{step(1, 0)}, len(l)), slices.Repeat(steps{step(0, 1)}, len(r)))} {
		holdNoMatch(t, l, r, list, want)
	}
	if tongue.ProveCost(l, r, 0, flat(l, r)) || tongue.ProveCost(l, r, 0, nil) {
		t.Fatalf("ProveCost of %v, %v", l, r)
	}
}

// flat is the table of which all numbers are 0. It is right, and proves the cost 0.
func flat(l, r text) tongue.Table {
	var t tongue.Table
	for range len(l) + 1 {
		t = append(t, make([]int, len(r)+1))
	}
	return t
}

// P8.1: the examples of the chapter and of the document.
func TestP8_1Examples(t *testing.T) {
	l, r := sides()
	holdMatch(t, l, r, steps{step(1, 1), step(1, 1), step(1, 1)}, 4)
	holdCost(t, l, r, steps{step(1, 2), step(1, 0), step(1, 1)}, 8)
	holdNoMatch(t, l, r, steps{step(2, 2)}, api.ErrFail)
	holdMatch(t, text{says(1, 4, 7), says(1, 9)}, text{says(1, 4), says(1, 7, 9)}, steps{step(1, 1), step(1, 1)}, 4)
}

// P8.1: each part of what a step costs, alone.
func TestP8_1Steps(t *testing.T) {
	a, b, none := says(1, 1), says(200, 2), says(9)
	for _, x := range []struct {
		l, r text
		step tongue.Step
		cost int
	}{
		{text{a}, text{a}, step(1, 1), 0},
		{text{none}, text{none}, step(1, 1), 0},
		{text{a}, text{b}, step(1, 1), 4},
		{text{a}, text{none}, step(1, 1), 2},
		{text{none}, nil, step(1, 0), 3},
		{text{a}, nil, step(1, 0), 5},
		{nil, text{none}, step(0, 1), 3},
		{nil, text{says(1, 0, 5, 999)}, step(0, 1), 9},
		{text{none, none}, text{none}, step(2, 1), 1},
		{text{a, b}, text{says(1, 1, 2)}, step(2, 1), 1},
		{text{says(1, 1, 2)}, text{b, a}, step(1, 2), 1},
		// The marks of a side with two are those of both, each once.
		{text{a, a}, text{none}, step(2, 1), 3},
		{text{a, a}, text{a}, step(2, 1), 1},
		{text{b}, text{a, a}, step(1, 2), 5},
		{text{says(1, 1, 2)}, text{says(1, 2, 3), says(1, 3, 4)}, step(1, 2), 7},
		// The least and the greatest mark, and those at which a word of bits ends.
		{text{says(1, 0, 63, 64, 999)}, text{says(1, 0, 63, 64, 999)}, step(1, 1), 0},
		{text{says(1, 0, 63)}, text{says(1, 64, 127)}, step(1, 1), 8},
		{text{says(1, 0)}, text{says(1, 64)}, step(1, 1), 4},
		{text{says(1, 0)}, text{says(1, 999)}, step(1, 1), 4},
		{text{says(1, 0, 1, 2, 3, 4, 5, 6, 7, 8, 9, 10, 11)}, text{says(1, 20, 21, 22, 23, 24, 25, 26, 27, 28, 29, 30, 31), says(1, 40, 41, 42, 43, 44, 45, 46, 47, 48, 49, 50, 51)}, step(1, 2), 73},
	} {
		holdCost(t, x.l, x.r, steps{x.step}, x.cost)
		holdCost(t, x.r, x.l, steps{step(x.step.Right, x.step.Left)}, x.cost)
	}
}

// P8.1: of several matches that cost the same the least list, by the first step
// that differs.
func TestP8_1LeastList(t *testing.T) {
	plain := func(count int) text { return slices.Repeat(text{says(1)}, count) }
	for _, x := range []struct {
		l, r int
		want steps
	}{
		{0, 0, nil},
		{1, 1, steps{step(1, 1)}},
		{2, 1, steps{step(2, 1)}},
		{1, 2, steps{step(1, 2)}},
		{3, 2, steps{step(2, 1), step(1, 1)}},
		{2, 3, steps{step(1, 2), step(1, 1)}},
		{3, 1, steps{step(2, 1), step(1, 0)}},
		{1, 3, steps{step(1, 2), step(0, 1)}},
		{4, 2, steps{step(2, 1), step(2, 1)}},
		{2, 4, steps{step(1, 2), step(1, 2)}},
		{5, 3, steps{step(2, 1), step(2, 1), step(1, 1)}},
		{2, 0, steps{step(1, 0), step(1, 0)}},
		{0, 2, steps{step(0, 1), step(0, 1)}},
	} {
		l, r := plain(x.l), plain(x.r)
		holdMatch(t, l, r, x.want, costOf(l, r, x.want))
	}
}

// P8.1: matches that cost the same, and differ first by any two kinds of steps.
func TestP8_1LeastOfTwo(t *testing.T) {
	for _, x := range []struct {
		l, r        [][]int
		want, other steps
	}{
		{[][]int{{1}, {3}}, [][]int{{3}, {1}}, steps{step(2, 1), step(0, 1)}, steps{step(1, 2), step(1, 0)}},
		{[][]int{{}, {}, {}}, [][]int{{}, {}}, steps{step(2, 1), step(1, 1)}, steps{step(1, 1), step(2, 1)}},
		{[][]int{{}, {}, {}}, [][]int{{}}, steps{step(2, 1), step(1, 0)}, steps{step(1, 0), step(2, 1)}},
		{[][]int{{0, 3}, {0, 3}}, [][]int{{}, {}}, steps{step(2, 1), step(0, 1)}, steps{step(0, 1), step(2, 1)}},
		{[][]int{{}, {}}, [][]int{{}, {}, {}}, steps{step(1, 2), step(1, 1)}, steps{step(1, 1), step(1, 2)}},
		{[][]int{{}, {}}, [][]int{{0, 1}, {0, 1}}, steps{step(1, 2), step(1, 0)}, steps{step(1, 0), step(1, 2)}},
		{[][]int{{1, 2}, {}}, [][]int{{1}, {2}}, steps{step(1, 2), step(1, 0)}, steps{step(1, 1), step(1, 1)}},
		{[][]int{{}}, [][]int{{}, {}, {}}, steps{step(1, 2), step(0, 1)}, steps{step(0, 1), step(1, 2)}},
		{[][]int{{}, {0, 2}}, [][]int{{0}, {2}}, steps{step(1, 1), step(1, 1)}, steps{step(1, 0), step(1, 2)}},
		{[][]int{{1}, {2}}, [][]int{{}, {1, 2}}, steps{step(1, 1), step(1, 1)}, steps{step(0, 1), step(2, 1)}},
		{[][]int{{0, 2}, {0, 1, 3}}, [][]int{{1, 3}, {0, 1, 2}}, steps{step(1, 0), step(1, 2)}, steps{step(0, 1), step(2, 1)}},
	} {
		var l, r text
		for _, marks := range x.l {
			l = append(l, says(1, marks...))
		}
		for _, marks := range x.r {
			r = append(r, says(1, marks...))
		}
		cost := costOf(l, r, x.other)
		holdCost(t, l, r, x.other, cost)
		holdMatch(t, l, r, x.want, cost)
	}
}

// P8.1: all pairs of small texts.
func TestP8_1SmallTexts(t *testing.T) {
	all := map[[2]int][]steps{}
	several := 0
	for _, l := range smallTexts(3) {
		for _, r := range smallTexts(3) {
			size := [2]int{len(l), len(r)}
			if all[size] == nil {
				all[size] = matches(len(l), len(r))
			}
			best, cost := bestOf(l, r, all[size])
			holdMatch(t, l, r, best, cost)
			for _, o := range all[size] {
				if costOf(l, r, o) == cost && compare(o, best) > 0 {
					several++
					break
				}
			}
		}
	}
	if several < 1000 {
		t.Errorf("%d times there are several", several)
	}
}

// P8.1: larger texts, and any match of them.
func TestP8_1Many(t *testing.T) {
	d := dice(1)
	kind := map[tongue.Step]int{}
	several := 0
	for range 3000 {
		l, r := d.pair(api.MaxSentences)
		best, cost := searchOf(l, r).from(0, 0)
		holdMatch(t, l, r, best, cost)
		for _, s := range best {
			kind[s]++
		}
		list := d.match(l, r)
		holdCost(t, l, r, list, costOf(l, r, list))
		if costOf(l, r, list) < cost {
			t.Fatalf("%v, %v: %v costs less", l, r, list)
		}
		if back := turned(backwards(l, r)); compare(back, best) != 0 && costOf(l, r, back) == cost {
			several++
		}
	}
	for _, s := range kinds() {
		if kind[s] < 1000 {
			t.Errorf("there are %d of %v", kind[s], s)
		}
	}
	if several < 500 {
		t.Errorf("%d times there are several", several)
	}
}

// backwards returns the best match of both texts read from their ends.
func backwards(l, r text) steps {
	l, r = slices.Clone(l), slices.Clone(r)
	slices.Reverse(l)
	slices.Reverse(r)
	list, _ := searchOf(l, r).from(0, 0)
	return list
}

// turned returns the steps from the last one to the first.
func turned(list steps) steps {
	list = slices.Clone(list)
	slices.Reverse(list)
	return list
}

// P8.1: which steps are a match: all lists of up to three steps, among them such
// as take too much, or too little.
func TestP8_1AnySteps(t *testing.T) {
	var steplike steps
	for i := -1; i <= 3; i++ {
		for k := -1; k <= 3; k++ {
			steplike = append(steplike, step(i, k))
		}
	}
	lists := []steps{nil}
	for _, a := range steplike {
		lists = append(lists, steps{a})
		for _, b := range steplike {
			lists = append(lists, steps{a, b})
			for _, c := range steplike {
				lists = append(lists, steps{a, b, c})
			}
		}
	}
	matched := 0
	l, r := text{says(3, 1, 2), says(4), says(2, 2, 3)}, text{says(5, 1), says(3, 2, 3), says(1, 9)}
	for i := range 4 {
		for k := range 4 {
			for _, list := range lists {
				if _, ok := takenBy(l[:i], r[:k], list); ok {
					holdCost(t, l[:i], r[:k], list, costOf(l[:i], r[:k], list))
					matched++
				} else {
					holdNoMatch(t, l[:i], r[:k], list, api.ErrFail)
				}
			}
		}
	}
	want := 0
	for i := range 4 {
		for k := range 4 {
			want += len(slices.DeleteFunc(matches(i, k), func(m steps) bool { return len(m) > 3 }))
		}
	}
	if matched != want {
		t.Errorf("%d are matches, not %d", matched, want)
	}
}

// P8.1: what is no match.
func TestP8_1NoMatch(t *testing.T) {
	l, r := sides()
	one := steps{step(1, 1), step(1, 1), step(1, 1)}
	for _, list := range []steps{
		nil, {}, one[:2], append(one[:3:3], step(1, 0)), append(one[:3:3], step(0, 1)), append(one[:3:3], step(0, 0)),
		{step(0, 0), step(1, 1), step(1, 1), step(1, 1)}, {step(3, 3)}, {step(2, 2), step(1, 1)}, {step(2, 0), step(1, 1), step(0, 2)}, {step(3, 1), step(0, 1), step(0, 1)},
		{step(2, 1), step(2, 1), step(-1, 1)}, {step(1, 1), step(1, 2), step(1, 1), step(0, -1)},
		{step(math.MaxInt, 1)}, {step(math.MinInt, math.MinInt), step(1, 1)}, {step(1, math.MaxInt), step(1, math.MaxInt), step(1, 5)},
		slices.Repeat(steps{step(1, 1)}, 100000), slices.Repeat(steps{step(0, 0)}, 100000),
	} {
		holdNoMatch(t, l, r, list, api.ErrFail)
	}
	holdNoMatch(t, nil, nil, steps{step(0, 0)}, api.ErrFail)
	holdNoMatch(t, nil, nil, steps{step(1, 1)}, api.ErrFail)
	holdCost(t, nil, nil, nil, 0)
	holdCost(t, nil, nil, steps{}, 0)
}

// P8.1 and P8.2: texts that are refused, on either side, and what is just not.
func TestP8_1P8_2Refused(t *testing.T) {
	rows := func(count int) []int {
		l := make([]int, count)
		for i := range l {
			l[i] = i
		}
		return l
	}
	for _, x := range []struct {
		text text
		want api.Errno
	}{
		{slices.Repeat(text{says(1)}, 21), api.ErrLimit},
		{make(text, 21), api.ErrLimit},
		{make(text, 1000), api.ErrLimit},
		{text{says(1), says(1, rows(13)...)}, api.ErrLimit},
		{text{says(0), says(1, rows(13)...)}, api.ErrLimit},
		{text{says(1, 5, 5), says(1, make([]int, 13)...)}, api.ErrLimit},
		{text{says(0)}, api.ErrArg},
		{text{says(201)}, api.ErrArg},
		{text{says(-1)}, api.ErrArg},
		{text{says(math.MinInt)}, api.ErrArg},
		{text{says(math.MaxInt)}, api.ErrArg},
		{text{says(1, -1)}, api.ErrArg},
		{text{says(1, 1000)}, api.ErrArg},
		{text{says(1, 3, 3)}, api.ErrArg},
		{text{says(1, 4, 3)}, api.ErrArg},
		{text{says(1, 3, 5, 4)}, api.ErrArg},
		{text{says(1, math.MinInt, 0)}, api.ErrArg},
		{text{says(1, 0, math.MaxInt)}, api.ErrArg},
		{append(slices.Repeat(text{says(1)}, 19), says(0)), api.ErrArg},
	} {
		l, r := sides()
		for _, o := range []text{nil, l, r} {
			holdNoTexts(t, o, x.text, x.want)
			holdNoTexts(t, x.text, o, x.want)
		}
		holdNoTexts(t, x.text, x.text, x.want)
		// What there is too much of is asked ahead of what is wrong, in both texts.
		holdNoTexts(t, x.text, make(text, 21), api.ErrLimit)
		holdNoTexts(t, make(text, 21), x.text, api.ErrLimit)
		holdNoTexts(t, text{says(0)}, x.text, x.want)
		holdNoTexts(t, x.text, text{says(0)}, x.want)
	}
	for _, x := range []text{slices.Repeat(text{says(1)}, 20), {says(1, rows(12)...)}, {says(200)}, {says(1, 0)}, {says(1, 999)}, {says(200, 0, 1, 999)}} {
		holdMatch(t, x, x, slices.Repeat(steps{step(1, 1)}, len(x)), 0)
	}
}

// P8.1 and P8.2: as much as there may be.
func TestP8_1P8_2Large(t *testing.T) {
	start := time.Now()
	d := dice(12)
	full := func() text {
		var l text
		for range api.MaxSentences {
			marks := map[int]bool{}
			for len(marks) < api.MaxMarks {
				marks[d.roll(0, api.MaxMark)] = true
			}
			var list []int
			for m := range api.MaxMark + 1 {
				if marks[m] {
					list = append(list, m)
				}
			}
			l = append(l, says(api.MaxSize, list...))
		}
		return l
	}
	for range 10 {
		l, r := full(), full()
		for _, pair := range [][2]text{{l, r}, {l, l}, {l, nil}, {nil, r}, {l, d.translate(l)}} {
			l, r := pair[0], pair[1]
			best, cost := searchOf(l, r).from(0, 0)
			holdMatch(t, l, r, best, cost)
			holdProof(t, l, r, cost)
		}
	}
	if spent := time.Since(start); spent > 5*time.Second {
		t.Errorf("it took %v", spent)
	}
}
