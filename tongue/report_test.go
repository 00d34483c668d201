package tongue_test

import (
	"slices"
	"testing"

	"palantype/api"
	"palantype/tongue"
)

// holdDifferences holds that Differences returns the indexes.
func holdDifferences(t *testing.T, l, r text, list steps, want ...int) {
	t.Helper()
	if d, e := tongue.Differences(l, r, list); !slices.Equal(d, want) || e != api.OK {
		t.Fatalf("Differences of %v, %v by %v: %v, %v, not %v", l, r, list, d, e, want)
	}
}

// holdCounts holds that Counts returns the pieces.
func holdCounts(t *testing.T, l, r text, list steps, lead []bool, want ...tongue.Piece) {
	t.Helper()
	if p, e := tongue.Counts(l, r, list, lead); !slices.Equal(p, want) || e != api.OK {
		t.Fatalf("Counts of %v, %v by %v, %v: %v, %v, not %v", l, r, list, lead, p, e, want)
	}
}

// holdLevel holds that Level returns this.
func holdLevel(t *testing.T, l, r text, list steps, begins []int, lines, blank int) {
	t.Helper()
	if b, n, o, e := tongue.Level(l, r, list); !slices.Equal(b, begins) || n != lines || o != blank || e != api.OK {
		t.Fatalf("Level of %v, %v by %v: %v, %v, %v, %v, not %v, %v, %v", l, r, list, b, n, o, e, begins, lines, blank)
	}
}

// P8.3: the example of the chapter, and others.
func TestP8_3Differences(t *testing.T) {
	l, r := sides()
	holdDifferences(t, l, r, steps{step(1, 1), step(1, 1), step(1, 1)}, 0, 1)
	holdDifferences(t, l, r, steps{step(2, 1), step(0, 1), step(1, 1)}, 0, 1)
	holdDifferences(t, l, r, steps{step(1, 1), step(0, 1), step(1, 0), step(1, 1)}, 0, 1, 2)
	holdDifferences(t, l, r, steps{step(1, 2), step(1, 0), step(0, 1), step(1, 0)}, 0, 1)
	// A side that has none differs from one that has marks, and from no other.
	holdDifferences(t, text{says(1)}, nil, steps{step(1, 0)})
	holdDifferences(t, nil, text{says(1)}, steps{step(0, 1)})
	holdDifferences(t, text{says(1, 0)}, nil, steps{step(1, 0)}, 0)
	holdDifferences(t, nil, text{says(1), says(2, 999)}, steps{step(0, 1), step(0, 1)}, 1)
	// Two sentences have the marks of both, and their Sizes do not matter.
	holdDifferences(t, text{says(1, 1), says(1, 2)}, text{says(200, 1, 2)}, steps{step(2, 1)})
	holdDifferences(t, text{says(1, 1, 2)}, text{says(1, 2), says(9, 1, 2)}, steps{step(1, 2)})
	holdDifferences(t, text{says(1, 1, 2)}, text{says(1, 2), says(1, 1, 3)}, steps{step(1, 2)}, 0)
	holdDifferences(t, nil, nil, nil)
}

// P8.3: the example of the chapter, and others.
func TestP8_3Counts(t *testing.T) {
	l, r := sides()
	one := steps{step(1, 1), step(1, 1), step(1, 1)}
	holdCounts(t, l, r, one, []bool{true, false, true}, left(0), right(1), left(2))
	holdCounts(t, l, r, one, []bool{false, true, false}, right(0), left(1), right(2))
	two := steps{step(1, 2), step(1, 0), step(1, 1)}
	holdCounts(t, l, r, two, []bool{true, false, true}, left(0), left(1), left(2))
	holdCounts(t, l, r, two, []bool{false, false, false}, right(0), right(1), left(1), right(2))
	// The Lead of the second one of two does not matter, and nor does any Lead
	// where only one side has sentences.
	for _, lead := range []bool{true, false} {
		list := steps{step(2, 1), step(0, 1), step(0, 1), step(1, 0)}
		holdCounts(t, l, r, list, []bool{true, lead, lead}, left(0), left(1), right(1), right(2), left(2))
		holdCounts(t, l, r, list, []bool{false, lead, lead}, right(0), right(1), right(2), left(2))
		holdCounts(t, l, nil, slices.Repeat(steps{step(1, 0)}, 3), []bool{lead, false, lead}, left(0), left(1), left(2))
	}
	holdCounts(t, nil, r, slices.Repeat(steps{step(0, 1)}, 3), nil, right(0), right(1), right(2))
	holdCounts(t, nil, nil, nil, nil)
	holdCounts(t, nil, nil, nil, []bool{})
}

// P8.3 and P8.6: all matches of small texts, with all Leads.
func TestP8_3P8_6SmallTexts(t *testing.T) {
	d := dice(3)
	kind := map[tongue.Step]int{}
	for i := range 4 {
		for k := range 4 {
			for _, list := range matches(i, k) {
				l, r := d.text(i, 3), d.text(k, 3)
				for _, s := range list {
					kind[s]++
				}
				holdPage(t, l, r, list)
				for bits := range 1 << i {
					lead := make([]bool, i)
					for at := range lead {
						lead[at] = bits>>at&1 == 1
					}
					holdCounts(t, l, r, list, lead, countingOf(l, r, list, lead)...)
				}
			}
		}
	}
	for _, s := range kinds() {
		if kind[s] < 20 {
			t.Errorf("there are %d of %v", kind[s], s)
		}
	}
}

// P8.3 and P8.6: large texts.
func TestP8_3P8_6Many(t *testing.T) {
	d := dice(33)
	differ, same := 0, 0
	for range 3000 {
		l, r := d.pair(api.MaxSentences)
		list := d.match(l, r)
		if d.one(2) {
			list, _, _ = tongue.Match(l, r)
		}
		want := differencesOf(l, r, list)
		holdDifferences(t, l, r, list, want...)
		differ += len(want)
		same += len(list) - len(want)
		lead := d.leads(l)
		holdCounts(t, l, r, list, lead, countingOf(l, r, list, lead)...)
		holdPage(t, l, r, list)
	}
	if differ < 5000 || same < 5000 {
		t.Errorf("%d steps differ, %d do not", differ, same)
	}
}

// holdPage holds Level against both columns, line by line.
func holdPage(t *testing.T, l, r text, list steps) {
	t.Helper()
	begins, columns := page(l, r, list)
	blank := 0
	for _, line := range slices.Concat(columns[0], columns[1]) {
		if line < 0 {
			blank++
		}
	}
	holdLevel(t, l, r, list, begins, len(columns[0]), blank)
}

// P8.3: Leads of which there are not as many as left sentences; the steps, and the
// texts, are asked first.
func TestP8_3CountsRefused(t *testing.T) {
	l, r := sides()
	for _, list := range []steps{{step(1, 1), step(1, 1), step(1, 1)}, {step(2, 1), step(0, 1), step(1, 1)}, slices.Concat(slices.Repeat(steps{step(1, 0)}, 3), slices.Repeat(steps{step(0, 1)}, 3))} {
		for _, leads := range []int{0, 1, 2, 4, 5, 1000} {
			if p, e := tongue.Counts(l, r, list, make([]bool, leads)); len(p) != 0 || e != api.ErrRange {
				t.Errorf("Counts with %d Leads: %v, %v", leads, p, e)
			}
			if p, e := tongue.Counts(l, r, list[1:], make([]bool, leads)); len(p) != 0 || e != api.ErrFail {
				t.Errorf("Counts without a match, with %d Leads: %v, %v", leads, p, e)
			}
			if p, e := tongue.Counts(l, append(r, says(0)), list, make([]bool, leads)); len(p) != 0 || e != api.ErrArg {
				t.Errorf("Counts of what is no text, with %d Leads: %v, %v", leads, p, e)
			}
		}
	}
	if p, e := tongue.Counts(nil, r, slices.Repeat(steps{step(0, 1)}, 3), []bool{true}); len(p) != 0 || e != api.ErrRange {
		t.Errorf("Counts with a Lead for nobody: %v, %v", p, e)
	}
	if p, e := tongue.Counts(nil, nil, nil, []bool{true}); len(p) != 0 || e != api.ErrRange {
		t.Errorf("Counts of nothing: %v, %v", p, e)
	}
}

// P8.6: the example of the chapter, and others.
func TestP8_6Level(t *testing.T) {
	l, r := sides()
	holdLevel(t, l, r, steps{step(1, 1), step(1, 1), step(1, 1)}, []int{0, 10, 19}, 27, 9)
	holdLevel(t, l, r, steps{step(1, 2), step(1, 0), step(1, 1)}, []int{0, 15, 20}, 28, 11)
	holdLevel(t, l, r, steps{step(2, 1), step(0, 1), step(1, 1)}, []int{0, 15, 24}, 32, 19)
	holdLevel(t, nil, nil, nil, nil, 0, 0)
	holdLevel(t, l, l, steps{step(1, 1), step(1, 1), step(1, 1)}, []int{0, 10, 15}, 23, 0)
	holdLevel(t, l, nil, slices.Repeat(steps{step(1, 0)}, 3), []int{0, 10, 15}, 23, 23)
	holdLevel(t, nil, l, slices.Repeat(steps{step(0, 1)}, 3), []int{0, 10, 15}, 23, 23)
	long := slices.Repeat(text{says(200)}, 20)
	holdLevel(t, long[:10], long, slices.Repeat(steps{step(1, 2)}, 10), []int{0, 400, 800, 1200, 1600, 2000, 2400, 2800, 3200, 3600}, 4000, 2000)
}
