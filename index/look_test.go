package index_test

import (
	"math"
	"slices"
	"testing"

	"palantype/api"
	"palantype/index"
)

// holdLead holds that the name leads to the heading.
func holdLead(t *testing.T, l []index.Heading, name string, want index.Heading) {
	t.Helper()
	if h, e := index.Lead(l, name); !sameHeading(h, want) || e != api.OK {
		t.Fatalf("Lead of %v, %q: %v, %v, not %v", l, name, h, e, want)
	}
}

// holdNoLead holds that the name leads nowhere, and that nothing is related to it.
func holdNoLead(t *testing.T, l []index.Heading, name string) {
	t.Helper()
	if h, e := index.Lead(l, name); !sameHeading(h, index.Heading{}) || e != api.ErrNone {
		t.Fatalf("Lead of %v, %q: %v, %v", l, name, h, e)
	}
	for _, steps := range []int{0, 1, 60} {
		holdNoRelated(t, l, name, steps, api.ErrNone)
	}
}

// holdUnder holds that the column stands under these headings.
func holdUnder(t *testing.T, l []index.Heading, volume, column int, want ...string) {
	t.Helper()
	if list, e := index.Under(l, volume, column); !slices.Equal(list, want) || e != api.OK {
		t.Fatalf("Under of %v, %d, %d: %q, %v, not %q", l, volume, column, list, e, want)
	}
}

// holdRelated holds that these headings are related to the name in so many steps.
func holdRelated(t *testing.T, l []index.Heading, name string, steps int, want ...string) {
	t.Helper()
	if list, e := index.Related(l, name, steps); !slices.Equal(list, want) || e != api.OK {
		t.Fatalf("Related of %v, %q, %d: %q, %v, not %q", l, name, steps, list, e, want)
	}
}

// holdNoRelated holds that Related returns the error, and nothing else.
func holdNoRelated(t *testing.T, l []index.Heading, name string, steps int, want api.Errno) {
	t.Helper()
	if list, e := index.Related(l, name, steps); len(list) != 0 || e != want {
		t.Fatalf("Related of %v, %q, %d: %q, %v, not %v", l, name, steps, list, e, want)
	}
}

// chain has headings that are related in a ring, one that is related to it, and one to
// which one of the ring is related.
func chain() []index.Heading {
	return of(heading("a", "A|z", "b"), heading("b", "", "c|d"), heading("c", "0", "a"), heading("d", "", ""), heading("e", "y", "a"))
}

// P11.3, P11.4: the examples of the chapter.
func TestP11_3P11_4Examples(t *testing.T) {
	holdLead(t, joined(), "Lady Lee", heading("A Lee", "Lady Lee|Lee Ann", "", at(3, 7, 7), at(9, 1, 2)))
	holdUnder(t, joined(), 3, 13, "Corn Laws", "Trade")
	holdRelated(t, joined(), "Corn laws", 1, "Corn Laws", "Trade")
}

// P11.3: each name, and texts that are none.
func TestP11_3Lead(t *testing.T) {
	for _, l := range [][]index.Heading{first(), second(), joined(), chain()} {
		for _, h := range l {
			for _, name := range namesOf(h) {
				holdLead(t, l, name, h)
			}
		}
		for _, name := range []string{"", " ", "lee ann", "LeeAnn", "Lee Ann ", "Lee", "corn laws", "CornLaws", "a ", "Z", "?", "\xff", "=", "Trade: 3/13"} {
			holdNoLead(t, l, name)
		}
	}
	holdNoLead(t, nil, "a")
	// Names with the same key are names of their own.
	l := of(heading("A", "ab", "", at(1, 1, 1)), heading("a", "A b", "", at(2, 1, 1)), heading("a b", "", ""))
	holdLead(t, l, "A", l[0])
	holdLead(t, l, "a", l[1])
	holdLead(t, l, "ab", l[0])
	holdLead(t, l, "A b", l[1])
	holdLead(t, l, "a b", l[2])
	holdNoLead(t, l, "AB")
	// A name that stands in Also leads to the heading that has it as a Name.
	holdLead(t, joined(), "Trade", heading("Trade", "", "", at(3, 13, 13)))
}

// P11.3: each column of an index and beside it, and columns that cannot be.
func TestP11_3Under(t *testing.T) {
	for _, l := range [][]index.Heading{first(), second(), joined(), chain(), nil} {
		for volume := 1; volume <= 10; volume++ {
			for column := 1; column <= 20; column++ {
				holdUnder(t, l, volume, column, underOf(l, volume, column)...)
			}
		}
		for _, volume := range []int{math.MinInt, -1, 0, 1000, math.MaxInt, 1, 3, 999} {
			for _, column := range []int{math.MinInt, -1, 0, 10000, math.MaxInt, 1, 13, 9999} {
				want := api.OK
				if volume < 1 || volume > 999 || column < 1 || column > 9999 {
					want = api.ErrRange
				} else {
					holdUnder(t, l, volume, column, underOf(l, volume, column)...)
					continue
				}
				if list, e := index.Under(l, volume, column); len(list) != 0 || e != want {
					t.Fatalf("Under of %v, %d, %d: %q, %v, not %v", l, volume, column, list, e, want)
				}
			}
		}
	}
	// Under all, in the order of the index; and once, whatever the places are.
	l := of(heading("?", "", "", at(1, 1, 9999)), heading("A", "", "", at(1, 1, 1), at(1, 9999, 9999), at(999, 9999, 9999)), heading("a", "", "", at(1, 1, 2), at(999, 1, 9999)), heading("b", "", "", at(1, 2, 3)))
	holdUnder(t, l, 1, 1, "?", "A", "a")
	holdUnder(t, l, 1, 2, "?", "a", "b")
	holdUnder(t, l, 1, 3, "?", "b")
	holdUnder(t, l, 1, 4, "?")
	holdUnder(t, l, 1, 9999, "?", "A")
	holdUnder(t, l, 999, 9999, "A", "a")
	holdUnder(t, l, 999, 9998, "a")
	holdUnder(t, l, 998, 1)
	holdUnder(t, l, 2, 1)
}

// P11.4: what is related in each number of steps.
func TestP11_4Related(t *testing.T) {
	for _, x := range []struct {
		name  string
		steps int
		want  []string
	}{
		{"a", 0, []string{"a"}}, {"A", 0, []string{"a"}}, {"z", 0, []string{"a"}},
		{"a", 1, []string{"a", "b"}}, {"z", 1, []string{"a", "b"}}, {"a", 2, []string{"a", "b", "c", "d"}}, {"a", 3, []string{"a", "b", "c", "d"}}, {"z", 60, []string{"a", "b", "c", "d"}},
		{"b", 0, []string{"b"}}, {"b", 1, []string{"b", "c", "d"}}, {"b", 2, []string{"a", "b", "c", "d"}},
		{"0", 0, []string{"c"}}, {"c", 1, []string{"a", "c"}}, {"0", 2, []string{"a", "b", "c"}}, {"c", 3, []string{"a", "b", "c", "d"}},
		{"d", 0, []string{"d"}}, {"d", 60, []string{"d"}},
		{"y", 1, []string{"a", "e"}}, {"e", 2, []string{"a", "b", "e"}}, {"e", 3, []string{"a", "b", "c", "d", "e"}}, {"e", 60, []string{"a", "b", "c", "d", "e"}},
	} {
		holdRelated(t, chain(), x.name, x.steps, x.want...)
	}
	// To be related goes one way; and a variant is no way.
	l := of(heading("a", "", ""), heading("b", "x", "a"), heading("c", "", "b"))
	holdRelated(t, l, "a", 60, "a")
	holdRelated(t, l, "x", 60, "a", "b")
	holdRelated(t, l, "c", 1, "b", "c")
}

// P11.4: a row of as many headings as there may be, each related to the next one, or
// to the one ahead of it.
func TestP11_4RelatedFar(t *testing.T) {
	names := numbered("x", 60)
	up, down := plain(names...), plain(names...)
	for i := range 59 {
		up[i].Also = []string{names[i+1]}
		down[i+1].Also = []string{names[i]}
	}
	for steps := range 61 {
		far := min(59, steps)
		holdRelated(t, up, names[0], steps, names[:far+1]...)
		holdRelated(t, up, names[59], steps, names[59])
		holdRelated(t, down, names[59], steps, names[59-far:]...)
		holdRelated(t, down, names[30], steps, names[30-min(30, steps):31]...)
	}
	l := largest("a")
	for _, steps := range []int{0, 1, 2, 7, 8, 9, 60} {
		holdRelated(t, l, l[0].Name, steps, relatedOf(l, l[0].Name, steps)...)
	}
}

// P11.4: steps that cannot be, and names that lead nowhere.
func TestP11_4RelatedRefuses(t *testing.T) {
	for _, steps := range []int{math.MinInt, -1, 61, math.MaxInt} {
		for _, name := range []string{"a", "z", "x", ""} {
			holdNoRelated(t, chain(), name, steps, api.ErrRange)
			holdNoRelated(t, nil, name, steps, api.ErrRange)
			holdNoRelated(t, plain("b", "a"), name, steps, api.ErrArg)
		}
	}
	for _, steps := range []int{0, 1, 59, 60} {
		holdNoRelated(t, chain(), "x", steps, api.ErrNone)
		holdNoRelated(t, nil, "a", steps, api.ErrNone)
	}
}

// P11.3, P11.4: many indices.
func TestP11_3P11_4Many(t *testing.T) {
	d := dice(3)
	under, far := 0, 0
	for range 1500 {
		l := d.index(few(), 8)
		for _, name := range few() {
			at := leadOf(l, name)
			if at < 0 {
				holdNoLead(t, l, name)
				continue
			}
			holdLead(t, l, name, l[at])
			for steps := range 5 {
				want := relatedOf(l, name, steps)
				holdRelated(t, l, name, steps, want...)
				far += len(want)
			}
		}
		for volume := 1; volume <= 4; volume++ {
			for column := 1; column <= 14; column++ {
				want := underOf(l, volume, column)
				holdUnder(t, l, volume, column, want...)
				under += len(want)
			}
		}
	}
	if under < 10000 || far < 50000 {
		t.Errorf("%d are under columns, %d are related", under, far)
	}
}
