package paper_test

import (
	"slices"
	"testing"
	"time"

	"palantype/api"
	"palantype/paper"
)

func pair(a, b int) paper.Pair { return paper.Pair{A: a, B: b} }

// holdClashes, holdOrder and holdLargest hold what these calls return of a valid
// motion.
func holdClashes(t *testing.T, m paper.Motion, want ...paper.Pair) {
	t.Helper()
	if l, e := paper.Clashes(m); !slices.Equal(l, want) || e != api.OK {
		t.Fatalf("Clashes of %v: %v, %v, not %v", m, l, e, want)
	}
}

func holdOrder(t *testing.T, m paper.Motion, want ...int) {
	t.Helper()
	if l, e := paper.Order(m); !slices.Equal(l, want) || e != api.OK {
		t.Fatalf("Order of %v: %v, %v, not %v", m, l, e, want)
	}
}

func holdLargest(t *testing.T, m paper.Motion, want ...int) {
	t.Helper()
	if l, e := paper.Largest(m); !slices.Equal(l, want) || e != api.OK {
		t.Fatalf("Largest of %v: %v, %v, not %v", m, l, e, want)
	}
}

// two returns a motion of five words with two papers at these places.
func two(from, to, otherFrom, otherTo int) paper.Motion {
	return motion("a b c d e", amends(1, 0, from, to, "x"), amends(2, 0, otherFrom, otherTo, "y"))
}

// P6.3: the examples of the chapter, and others.
func TestP6_3Clashes(t *testing.T) {
	holdClashes(t, house(), pair(2, 9), pair(8, 9))
	holdClashes(t, paper.Motion{})
	holdClashes(t, motion("a", amends(1, 0, 0, 1, "b")))
	for _, m := range []paper.Motion{two(1, 3, 2, 4), two(1, 3, 1, 3), two(0, 5, 2, 3), two(2, 3, 0, 5), two(1, 3, 2, 2), two(2, 2, 1, 3), two(0, 5, 1, 1), two(0, 5, 4, 4)} {
		holdClashes(t, m, pair(1, 2))
	}
	for _, m := range []paper.Motion{two(1, 3, 3, 4), two(3, 4, 1, 3), two(2, 2, 2, 2), two(1, 3, 1, 1), two(1, 3, 3, 3), two(0, 1, 4, 5), two(1, 1, 2, 2), two(0, 5, 0, 0), two(0, 5, 5, 5), two(2, 3, 2, 2)} {
		holdClashes(t, m)
	}
	// What amends different things never clashes, not even by what it amends.
	holdClashes(t, motion("a b", amends(1, 0, 0, 2, "c d"), amends(2, 1, 0, 2, ""), amends(3, 2, 0, 0, ""), amends(4, 0, 1, 1, "e")), pair(1, 4))
	// By Numbers, not by the list.
	holdClashes(t, motion("a", amends(10, 0, 0, 1, ""), amends(9, 0, 0, 1, ""), amends(999, 0, 0, 1, ""), amends(100, 0, 0, 1, "")), pair(9, 10), pair(9, 100), pair(9, 999), pair(10, 100), pair(10, 999), pair(100, 999))
}

// P6.3: papers that change the same word clash, and so does one that puts words
// between two words which another one replaces both; and no others.
func TestP6_3SameWord(t *testing.T) {
	replaces := func(p paper.Paper, word int) bool { return p.From <= word && word < p.To }
	puts := func(p, q paper.Paper) bool {
		return p.From == p.To && replaces(q, p.From-1) && replaces(q, p.From)
	}
	clashing, apart := 0, 0
	for i := range 6 * 6 * 6 * 6 {
		m := two(i%6, i/6%6, i/36%6, i/216)
		if faultOf(m) != api.OK {
			continue
		}
		p, q := m.Papers[0], m.Papers[1]
		same := puts(p, q) || puts(q, p)
		for word := range 5 {
			same = same || replaces(p, word) && replaces(q, word)
		}
		if same {
			holdClashes(t, m, pair(1, 2))
			clashing++
		} else {
			holdClashes(t, m)
			apart++
		}
	}
	if clashing < 100 || apart < 100 {
		t.Errorf("%d clash, %d do not", clashing, apart)
	}
}

// P6.4: the example of the chapter, and others.
func TestP6_4Order(t *testing.T) {
	holdOrder(t, house(), 5, 3, 9, 2, 8)
	holdOrder(t, paper.Motion{})
	holdOrder(t, motion("a b c", amends(1, 0, 2, 3, ""), amends(2, 0, 0, 1, ""), amends(3, 0, 1, 3, ""), amends(4, 0, 1, 2, ""), amends(6, 0, 1, 1, ""), amends(5, 0, 1, 1, "")), 2, 5, 6, 4, 3, 1)
	holdOrder(t, motion("a", amends(7, 0, 0, 1, ""), amends(70, 0, 0, 1, ""), amends(8, 0, 0, 1, "")), 7, 8, 70)
	holdOrder(t, chain(10), 10, 9, 8, 7, 6, 5, 4, 3, 2, 1)
	holdOrder(t, beside(10), 1, 2, 3, 4, 5, 6, 7, 8, 9, 10)
	// Those that amend a paper stand ahead of it, wherever in it they are.
	holdOrder(t, motion("a b", amends(1, 0, 1, 1, "p q"), amends(2, 0, 0, 0, "r"), amends(3, 1, 2, 2, "s"), amends(4, 1, 0, 1, ""), amends(5, 3, 0, 1, ""), amends(6, 2, 1, 1, "")), 6, 2, 4, 5, 3, 1)
}

// P6.4: the example of the chapter, and others.
func TestP6_4Largest(t *testing.T) {
	holdLargest(t, house(), 2, 3, 5, 8)
	holdLargest(t, paper.Motion{})
	holdLargest(t, motion("a", amends(999, 0, 0, 1, "")), 999)
	holdLargest(t, chain(10), 1, 2, 3, 4, 5, 6, 7, 8, 9, 10)
	holdLargest(t, beside(10), 1, 2, 3, 4, 5, 6, 7, 8, 9, 10)
	// Of several the least list.
	holdLargest(t, motion("a", amends(7, 0, 0, 1, ""), amends(70, 0, 0, 1, ""), amends(8, 0, 0, 1, "")), 7)
	holdLargest(t, motion("a b", amends(1, 0, 0, 1, ""), amends(2, 0, 0, 1, ""), amends(3, 0, 1, 2, ""), amends(4, 0, 1, 2, "")), 1, 3)
	holdLargest(t, motion("a b", amends(4, 0, 0, 1, ""), amends(2, 0, 0, 1, ""), amends(1, 0, 1, 2, ""), amends(3, 0, 1, 2, "")), 1, 2)
	// More papers are chosen, though the lists that begin with 1 are less.
	holdLargest(t, motion("a b c", amends(1, 0, 0, 3, ""), amends(7, 0, 0, 1, ""), amends(8, 0, 1, 3, "")), 7, 8)
	holdLargest(t, motion("a b c", amends(1, 0, 0, 3, "x"), amends(2, 1, 0, 0, ""), amends(7, 0, 0, 1, ""), amends(8, 0, 1, 3, "")), 1, 2)
	holdLargest(t, motion("a b c", amends(9, 0, 0, 3, "x"), amends(8, 9, 0, 0, ""), amends(1, 0, 0, 1, ""), amends(2, 0, 2, 3, "")), 1, 2)
	// What amends has a lesser Number than what it amends.
	holdLargest(t, motion("a", amends(9, 0, 0, 1, "x"), amends(1, 9, 0, 1, ""), amends(2, 0, 0, 1, "y"), amends(8, 2, 0, 1, "")), 1, 9)
}

// P6.3 and P6.4: all small motions.
func TestP6_3P6_4SmallMotions(t *testing.T) {
	count := [4]int{}
	for m := range smallMotions {
		holdClashes(t, m, pairsOf(m)...)
		holdOrder(t, m, orderOf(m, 0)...)
		largest := largestOf(m)
		holdLargest(t, m, largest...)
		count[len(largest)]++
	}
	if count[1] < 5 || count[2] < 200 || count[3] < 800 {
		t.Errorf("%v of the largest have that many papers", count)
	}
}

// P6.3 and P6.4: larger ones.
func TestP6_3P6_4Many(t *testing.T) {
	d := dice(4)
	clashing, chosen, several := 0, 0, 0
	for range 2000 {
		m := d.motion(8)
		pairs, largest := pairsOf(m), largestOf(m)
		holdClashes(t, m, pairs...)
		holdOrder(t, m, orderOf(m, 0)...)
		holdLargest(t, m, largest...)
		clashing += len(pairs)
		chosen += len(largest)
		equal := slices.DeleteFunc(allChoices(m), func(l []int) bool { return len(l) < len(largest) })
		if len(equal) > 1 {
			several++
		}
	}
	if clashing < 600 || chosen < 5000 || several < 100 {
		t.Errorf("%d pairs clash, %d papers are chosen, %d times of several choices", clashing, chosen, several)
	}
}

// P6.3 and P6.4: as many papers as there may be, of which all, some or none clash.
func TestP6_3P6_4Large(t *testing.T) {
	start := time.Now()
	all, halves := motion("a b"), motion("a b")
	var pairs []paper.Pair
	for i := range api.MaxPapers {
		all.Papers = append(all.Papers, amends(990+i, 0, 0, 2, "x"))
		halves.Papers = append(halves.Papers, amends(990+i, 0, i%2, i%2+1, "x"))
		for k := i + 1; k < api.MaxPapers; k++ {
			pairs = append(pairs, pair(990+i, 990+k))
		}
	}
	if len(pairs) != 45 {
		t.Fatalf("%d pairs", len(pairs))
	}
	holdClashes(t, all, pairs...)
	holdLargest(t, all, 990)
	holdOrder(t, all, numbersOf(all)...)
	holdLargest(t, halves, 990, 991)
	holdOrder(t, halves, 990, 992, 994, 996, 998, 991, 993, 995, 997, 999)
	holdClashes(t, chain(api.MaxPapers))
	d := dice(44)
	for range 20 {
		m := motion("a b c d e f g")
		for range api.MaxPapers {
			m.Papers = append(m.Papers, d.paper(m, api.MaxPaper))
		}
		holdClashes(t, m, pairsOf(m)...)
		holdOrder(t, m, orderOf(m, 0)...)
		holdLargest(t, m, largestOf(m)...)
	}
	if spent := time.Since(start); spent > 5*time.Second {
		t.Errorf("it took %v", spent)
	}
}
