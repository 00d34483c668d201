package index_test

import (
	"slices"
	"testing"

	"palantype/api"
	"palantype/index"
)

// P11.6: all orders of three indices, and each two of them joined first.
func TestP11_6AnyOrder(t *testing.T) {
	d := dice(6)
	count := 0
	for range 1500 {
		l := years(d.index(d.some(d.some(few())), 4), d.index(d.some(d.some(few())), 4), d.index(d.some(few()), 4))
		want, e := index.Join(l)
		for _, order := range [][3]int{{0, 1, 2}, {0, 2, 1}, {1, 0, 2}, {1, 2, 0}, {2, 0, 1}, {2, 1, 0}} {
			a, b, c := l[order[0]], l[order[1]], l[order[2]]
			if x, again := index.Join(years(a, b, c)); !same(x, want) || again != e {
				t.Fatalf("Join of %v, %v, %v: %v, %v, not %v, %v", a, b, c, x, again, want, e)
			}
			ab, refused := index.Join(years(a, b))
			if e != api.OK || refused != api.OK {
				continue
			}
			holdJoin(t, want, ab, c)
			holdJoin(t, want, c, ab)
			holdJoin(t, want, ab, ab, c)
			count++
		}
	}
	if count < 3000 {
		t.Errorf("%d times two were joined first", count)
	}
}

// P11.6: all triples of small indices of two names, and of three names by chance.
func TestP11_6SmallTriples(t *testing.T) {
	all, more := smallIndices(1, "a", "b"), smallIndices(2, "a", "b", "c")
	hold := func(a, b, c []index.Heading) {
		want, _ := holdJoined(t, a, b, c)
		ab, e := index.Join(years(a, b))
		bc, f := index.Join(years(b, c))
		if e != api.OK || f != api.OK {
			t.Fatalf("Join of %v, %v, %v: %v, %v", a, b, c, e, f)
		}
		holdJoin(t, want, ab, c)
		holdJoin(t, want, a, bc)
	}
	for _, a := range all {
		for _, b := range all {
			for _, c := range all {
				hold(a, b, c)
			}
		}
	}
	d := dice(66)
	for range 5000 {
		hold(more[d.roll(0, len(more)-1)], more[d.roll(0, len(more)-1)], more[d.roll(0, len(more)-1)])
	}
}

// P11.6: many indices, joined in groups of any size, and these again.
func TestP11_6Groups(t *testing.T) {
	d := dice(606)
	joins := 0
	for range 1500 {
		l := d.years(9, 3)
		want, e := index.Join(l)
		for e == api.OK && len(l) > 1 {
			mix(&d, l)
			n := d.roll(1, len(l))
			group, refused := index.Join(l[:n])
			if refused != api.OK {
				break
			}
			l = append(years(group), l[n:]...)
			holdJoin(t, want, l...)
			joins++
		}
	}
	if joins < 2000 {
		t.Errorf("%d groups", joins)
	}
}

// P11.6: an index alone, with itself, and with nothing.
func TestP11_6Itself(t *testing.T) {
	d := dice(6006)
	for range 2000 {
		l := d.index(few(), 10)
		holdJoin(t, l, l)
		holdJoin(t, l, l, l)
		holdJoin(t, l, nil, l, nil)
		holdJoin(t, l, slices.Repeat(years(l), 12)...)
	}
}

// P11.7: from the names and columns of the indices to the joined one, and back.
func TestP11_7EachNameEachColumn(t *testing.T) {
	d := dice(7)
	names, stood := 0, 0
	for range 1500 {
		l := d.years(5, 4)
		x, e := index.Join(l)
		if e != api.OK {
			continue
		}
		from := map[string]columns{} // by the joined heading, what stood under what leads to it
		for _, h := range slices.Concat(l...) {
			for _, name := range namesOf(h) {
				to, e := index.Lead(x, name)
				if e != api.OK {
					t.Fatalf("%q of %v does not lead in %v", name, l, x)
				}
				has := columnsOf(to)
				if from[to.Name] == nil {
					from[to.Name] = columns{}
				}
				for c := range columnsOf(h) {
					if !has[c] {
						t.Fatalf("%v stood under %q in %v, and does not in %v", c, name, l, to)
					}
					from[to.Name][c] = true
				}
				names++
			}
		}
		for _, h := range x {
			for c := range columnsOf(h) {
				if !from[h.Name][c] {
					t.Fatalf("%v stands under %v, and did not in %v", c, h, l)
				}
				stood++
			}
		}
	}
	if names < 8000 || stood < 12000 {
		t.Errorf("%d names, %d columns", names, stood)
	}
}

// P11.8: what Join returns is an index, and can be joined, looked up and written.
func TestP11_8AnIndexAgain(t *testing.T) {
	d := dice(8)
	count := 0
	for range 3000 {
		l := d.years(6, 5)
		x, e := index.Join(l)
		if e != api.OK {
			continue
		}
		if faultOf(x) != api.OK {
			t.Fatalf("Join of %v: %v", l, x)
		}
		holdFault(t, api.OK, x...)
		count += len(x)
	}
	if count < 3000 {
		t.Errorf("%d headings", count)
	}
}

// P11.9: there and back: indices that are written, and files that are read.
func TestP11_9Files(t *testing.T) {
	d := dice(9)
	seen := map[string]bool{}
	for range 5000 {
		l := d.index(few(), 10)
		b, e := index.Write(l)
		if e != api.OK {
			t.Fatalf("Write of %v: %v", l, e)
		}
		x, e := index.Read(b)
		if !same(x, l) || e != api.OK {
			t.Fatalf("Read of %q: %v, %v, not %v", b, x, e, l)
		}
		c, e := index.Write(x)
		if string(c) != string(b) || e != api.OK {
			t.Fatalf("%q is written again as %q, %v", b, c, e)
		}
		seen[string(b)] = true
	}
	if len(seen) < 3000 {
		t.Errorf("%d files", len(seen))
	}
}

// P11.9: indices that differ have files that differ.
func TestP11_9FilesDiffer(t *testing.T) {
	files := map[string][]index.Heading{}
	all := slices.Concat(smallIndices(1, "a", "b", "c"), smallIndices(11, "a", "b", "c")[1:], smallIndices(1, "1", "A", "b")[1:])
	for _, l := range all {
		b, e := index.Write(l)
		if other, has := files[string(b)]; e != api.OK || has && !same(l, other) {
			t.Fatalf("%v and %v: %q, %v", l, other, b, e)
		}
		files[string(b)] = l
		holdFile(t, l, fileOf(l))
	}
	if len(files) < 250 {
		t.Errorf("%d files", len(files))
	}
}

// texts are all texts of at most so many of the bytes.
func texts(count int, bytes ...string) []string {
	all := []string{""}
	for from := 0; count > 0; count-- {
		end := len(all)
		for _, text := range all[from:end] {
			for _, b := range bytes {
				all = append(all, text+b)
			}
		}
		from = end
	}
	return all
}

// P11.10: of all small texts: one comes before the other one, if they differ; and of
// three the order goes on.
func TestP11_10Order(t *testing.T) {
	all := texts(2, "a", "A", "b", "B", "0", "-", " ", "\xe9")
	before := make([][]bool, len(all))
	for i, a := range all {
		for _, b := range all {
			before[i] = append(before[i], index.Before(a, b))
		}
	}
	for i, a := range all {
		for k, b := range all {
			if before[i][k] == before[k][i] && i != k || i == k && before[i][k] {
				t.Fatalf("Before of %q, %q: %v, %v", a, b, before[i][k], before[k][i])
			}
			for n, c := range all {
				if before[i][k] && before[k][n] && !before[i][n] {
					t.Fatalf("%q comes before %q, that before %q, but the first one not before the last one", a, b, c)
				}
			}
		}
	}
}

// P11.10: many longer texts, put in order by Before: then each comes before all that
// are behind it, and none before itself or one ahead of it.
func TestP11_10Sorted(t *testing.T) {
	all := texts(4, "a", "A", "b", "1", "?")
	d := dice(10)
	mix(&d, all)
	slices.SortFunc(all, func(a, b string) int {
		if index.Before(a, b) {
			return -1
		}
		return 1
	})
	for i, a := range all {
		for k, b := range all {
			if index.Before(a, b) != (i < k) {
				t.Fatalf("Before of %q, %q: %v", a, b, i >= k)
			}
		}
	}
}

// relatedTo returns what Related returns of an index and a name that are valid.
func relatedTo(t *testing.T, l []index.Heading, name string, steps int) []string {
	t.Helper()
	list, e := index.Related(l, name, steps)
	if e != api.OK {
		t.Fatalf("Related of %v, %q, %d: %v", l, name, steps, e)
	}
	return list
}

// loose throws an index of which few headings are related, so that the ways are long.
func (d *dice) loose() []index.Heading {
	l := d.index(numbered("n", 40), 14)
	for i := range l {
		l[i].Also = l[i].Also[:min(len(l[i].Also), d.roll(0, 2))]
	}
	return l
}

// P11.11: with more steps nobody is lost; steps add up; and in as many steps as there
// are headings all are found.
func TestP11_11Related(t *testing.T) {
	d := dice(11)
	far, sums := 0, 0
	for range 120 {
		l := d.loose()
		for _, h := range l {
			name := namesOf(h)[d.roll(0, len(h.Variants))]
			ever := relatedTo(t, l, name, len(l))
			for steps := range len(l) + 2 {
				list := relatedTo(t, l, name, steps)
				for _, other := range list {
					if !slices.Contains(relatedTo(t, l, name, steps+1), other) {
						t.Fatalf("%v: %q is related to %q in %d steps, and not in one more", l, other, name, steps)
					}
					more := d.roll(0, 4)
					sum := relatedTo(t, l, name, steps+more)
					for _, third := range relatedTo(t, l, other, more) {
						if !slices.Contains(sum, third) {
							t.Fatalf("%v: %q is in %d steps from %q, that in %d from %q, but the first one not in %d", l, third, more, other, steps, name, steps+more)
						}
						sums++
					}
				}
				if steps >= len(l) && !slices.Equal(list, ever) {
					t.Fatalf("%v: in %d steps there are %q, not %q", l, steps, list, ever)
				}
			}
			if list := relatedTo(t, l, name, 60); !slices.Equal(list, ever) {
				t.Fatalf("%v: in 60 steps there are %q, not %q", l, list, ever)
			}
			if len(ever) > len(relatedTo(t, l, name, 3)) {
				far++
			}
		}
	}
	if far < 50 || sums < 40000 {
		t.Errorf("%d are related further, %d are by way of others", far, sums)
	}
}

// P11.12: the names of a column lead to what has it, and no other heading has it.
func TestP11_12ByColumn(t *testing.T) {
	d := dice(12)
	count := map[bool]int{}
	for range 800 {
		l := d.index(few(), 8)
		for volume := 1; volume <= 4; volume++ {
			for column := 1; column <= 14; column++ {
				list, e := index.Under(l, volume, column)
				if e != api.OK {
					t.Fatalf("Under of %v, %d, %d: %v", l, volume, column, e)
				}
				for _, h := range l {
					to, e := index.Lead(l, h.Name)
					if e != api.OK {
						t.Fatalf("Lead of %v, %q: %v", l, h.Name, e)
					}
					has := columnsOf(to)[[2]int{volume, column}]
					if slices.Contains(list, h.Name) != has {
						t.Fatalf("Under of %v, %d, %d: %q", l, volume, column, list)
					}
					count[has]++
				}
				if len(list) > len(l) {
					t.Fatalf("Under of %v, %d, %d: %q", l, volume, column, list)
				}
			}
		}
	}
	if min(count[true], count[false]) < 10000 {
		t.Errorf("%v", count)
	}
}
