package volume_test

import (
	"math"
	"slices"
	"testing"

	"palantype/api"
	"palantype/volume"
)

// holdMerge holds that Merge of both lists returns these errata, whichever is first.
func holdMerge(t *testing.T, a, b []volume.Erratum, want ...volume.Erratum) {
	t.Helper()
	for _, x := range [][2][]volume.Erratum{{a, b}, {b, a}} {
		if l, e := volume.Merge(x[0], x[1]); !slices.Equal(l, want) || e != api.OK {
			t.Fatalf("Merge of %v, %v: %v, %v, not %v", x[0], x[1], l, e, want)
		}
	}
}

// holdNoMerge holds that Merge of both lists returns ErrTwice, and nothing else.
func holdNoMerge(t *testing.T, a, b []volume.Erratum) {
	t.Helper()
	for _, x := range [][2][]volume.Erratum{{a, b}, {b, a}} {
		if l, e := volume.Merge(x[0], x[1]); len(l) != 0 || e != api.ErrTwice {
			t.Fatalf("Merge of %v, %v: %v, %v, not %v", x[0], x[1], l, e, api.ErrTwice)
		}
	}
}

// holdMerged holds Merge against what the chapter defines.
func holdMerged(t *testing.T, a, b []volume.Erratum) {
	t.Helper()
	if want, e := mergedOf(a, b); e == api.OK {
		holdMerge(t, a, b, want...)
	} else {
		holdNoMerge(t, a, b)
	}
}

// P10.1: the errata of the examples, dealt out to two lists in all ways: each is in
// the first list, in the second one, or in both.
func TestP10_1Merge(t *testing.T) {
	l := amends()
	for way := range 27 {
		var a, b []volume.Erratum
		for i, rest := 0, way; i < 3; i, rest = i+1, rest/3 {
			if rest%3 != 0 {
				a = append(a, l[i])
			}
			if rest%3 != 1 {
				b = append(b, l[i])
			}
		}
		holdMerge(t, a, b, l...)
		slices.Reverse(a)
		holdMerge(t, a, b, l...)
		slices.Reverse(b)
		holdMerge(t, a, b, l...)
	}
	holdMerge(t, nil, nil)
	holdMerge(t, nil, []volume.Erratum{})
	holdMerge(t, nil, l[1:2], l[1])
}

// P10.1: by rising Day, and then by rising Number.
func TestP10_1MergeOrder(t *testing.T) {
	a, b, c, d := remove(9, 1, 1), remove(1, 2, 1), remove(8, 2, 1), remove(2, 3, 1)
	holdMerge(t, []volume.Erratum{d, b}, []volume.Erratum{c, a}, a, b, c, d)
	holdMerge(t, []volume.Erratum{d, c, b, a}, nil, a, b, c, d)
	holdMerge(t, []volume.Erratum{a, b, c, d}, []volume.Erratum{a, b, c, d}, a, b, c, d)
	holdMerge(t, []volume.Erratum{c}, []volume.Erratum{b}, b, c)
	// What else they have does not matter for their order.
	x, y := add(1, 2, 999, 999, "zz"), change(2, 2, 1, "a")
	holdMerge(t, []volume.Erratum{y}, []volume.Erratum{x}, x, y)
}

// P10.1: errata with the same Number that differ in anything.
func TestP10_1MergeTwice(t *testing.T) {
	x := add(7, 60, 11, 20, "text")
	for _, change := range []func(*volume.Erratum){
		func(y *volume.Erratum) { y.Day = 61 },
		func(y *volume.Erratum) { y.Kind = volume.Change },
		func(y *volume.Erratum) { y.Anchor = 12 },
		func(y *volume.Erratum) { y.Text = "texT" },
		func(y *volume.Erratum) { y.Text = "" },
		func(y *volume.Erratum) { y.New = 21 },
	} {
		y := x
		change(&y)
		holdNoMerge(t, []volume.Erratum{x}, []volume.Erratum{y})
		holdNoMerge(t, []volume.Erratum{x, y}, nil)
		holdNoMerge(t, append(amends(), y), []volume.Erratum{x})
		holdNoMerge(t, []volume.Erratum{y}, append([]volume.Erratum{x}, amends()...))
		holdNoMerge(t, []volume.Erratum{x, y}, []volume.Erratum{x, y})
		y.Number = 8
		holdMerged(t, []volume.Erratum{x}, []volume.Erratum{y})
	}
	// The same one is there once, wherever it stands.
	holdMerge(t, []volume.Erratum{x}, []volume.Erratum{x}, x)
	holdMerge(t, []volume.Erratum{x, x}, nil, x)
	holdMerge(t, []volume.Erratum{x, x}, []volume.Erratum{x}, x)
}

// P10.1: Merge looks at nothing else: whatever errata are like, they are merged.
func TestP10_1MergeWhatever(t *testing.T) {
	for _, x := range []volume.Erratum{
		{},
		{Number: math.MinInt, Day: math.MaxInt, Kind: 255, Anchor: math.MinInt, Text: "\xff\x00", New: math.MaxInt},
		change(-1, -1, -1, ""),
		remove(1000, 100000, 1000),
	} {
		for _, y := range append(amends(), remove(500, math.MinInt, 0), remove(501, math.MaxInt, 0), add(502, 0, 30, 30, "x")) {
			holdMerged(t, []volume.Erratum{x}, []volume.Erratum{y})
			holdMerged(t, []volume.Erratum{x, y}, []volume.Erratum{y, x})
		}
	}
	holdMerge(t, []volume.Erratum{remove(2, math.MaxInt, 0)}, []volume.Erratum{remove(1, math.MinInt, 0)}, remove(1, math.MinInt, 0), remove(2, math.MaxInt, 0))
	holdMerge(t, []volume.Erratum{remove(math.MaxInt, 0, 0)}, []volume.Erratum{remove(math.MinInt, 0, 0)}, remove(math.MinInt, 0, 0), remove(math.MaxInt, 0, 0))
}

// P10.1: lists of any length.
func TestP10_1MergeLong(t *testing.T) {
	var a, b, want []volume.Erratum
	for i := range 20000 {
		x := remove((i*7919)%20000, i/3, i)
		if i%3 != 0 {
			a = append(a, x)
		}
		if i%3 != 1 {
			b = append(b, x)
		}
		want = append(want, x)
	}
	slices.SortFunc(want, func(x, y volume.Erratum) int {
		if ahead(x, y) {
			return -1
		}
		return 1
	})
	d := dice(110)
	mix(&d, a)
	mix(&d, b)
	holdMerge(t, a, b, want...)
	b[11000].Text = "x"
	if slices.ContainsFunc(a, func(x volume.Erratum) bool { return x.Number == b[11000].Number }) {
		holdNoMerge(t, a, b)
	} else {
		holdNoMerge(t, append(a, want...), b)
	}
}

// P10.1: all pairs of lists of up to two of these errata, and many longer ones.
func TestP10_1MergeAll(t *testing.T) {
	some := []volume.Erratum{remove(1, 1, 1), remove(1, 1, 2), remove(2, 1, 1), remove(2, 0, 1), change(2, 1, 1, "x"), remove(3, 0, 1), remove(0, 0, 0)}
	lists := [][]volume.Erratum{nil}
	for _, x := range some {
		lists = append(lists, []volume.Erratum{x})
		for _, y := range some {
			lists = append(lists, []volume.Erratum{x, y})
		}
	}
	for _, a := range lists {
		for _, b := range lists {
			holdMerged(t, a, b)
		}
	}
	d := dice(111)
	merged := map[bool]int{}
	for range 2000 {
		all := slices.Clone(some)
		for i := range 12 {
			all = append(all, d.erratum(4+i, d.roll(0, 4), []int{1, 2, 3}, 4))
		}
		mix(&d, all)
		a, b := all[:d.roll(0, 8)], all[d.roll(0, 8):d.roll(9, 18)]
		holdMerged(t, a, b)
		_, e := mergedOf(a, b)
		merged[e == api.OK]++
	}
	if min(merged[true], merged[false]) < 400 {
		t.Errorf("%v were merged", merged)
	}
}
