package tally_test

import (
	"math"
	"slices"
	"testing"

	"palantype/api"
	"palantype/tally"
)

// holdFault holds that all calls with the division return the error, and nothing
// else.
func holdFault(t *testing.T, d tally.Division, want api.Errno) {
	t.Helper()
	if e := tally.CheckDivision(d); e != want {
		t.Fatalf("CheckDivision of %v: %v, not %v", d, e, want)
	}
	if want == api.OK {
		return
	}
	if m, e := tally.Clash(d); m != 0 || e != want {
		t.Fatalf("Clash of %v: %v, %v, not %v", d, m, e, want)
	}
	for _, truth := range [][]uint8{nil, {1}, {1, 2}, {3, 0, 9}, make([]uint8, 50)} {
		holdNoCount(t, d, truth, want)
	}
	if l, e := tally.Doubts(d); len(l) != 0 || e != want {
		t.Fatalf("Doubts of %v: %v, %v, not %v", d, l, e, want)
	}
	holdNothingSure(t, d, want)
	holdNoWitness(t, d, 3, want)
}

// holdNoCount, holdNoWitness and holdNothingSure hold that these calls return the
// error, and nothing else.
func holdNoCount(t *testing.T, d tally.Division, truth []uint8, want api.Errno) {
	t.Helper()
	if n, o, e := tally.Count(d, truth); n != numbers(0, 0) || o != 0 || e != want {
		t.Fatalf("Count of %v, %v: %v, %v, %v, not %v", d, truth, n, o, e, want)
	}
}

func holdNoWitness(t *testing.T, d tally.Division, outcome uint8, want api.Errno) {
	t.Helper()
	if l, e := tally.Witness(d, outcome); len(l) != 0 || e != want {
		t.Fatalf("Witness of %v, %v: %v, %v, not %v", d, outcome, l, e, want)
	}
}

func holdNothingSure(t *testing.T, d tally.Division, want api.Errno) {
	t.Helper()
	if a, n, e := tally.Bounds(d); a != span(0, 0) || n != span(0, 0) || e != want {
		t.Fatalf("Bounds of %v: %v, %v, %v, not %v", d, a, n, e, want)
	}
	if l, e := tally.Allowed(d); len(l) != 0 || e != want {
		t.Fatalf("Allowed of %v: %v, %v, not %v", d, l, e, want)
	}
	for outcome := range tally.Void + 1 {
		holdNoWitness(t, d, outcome, want)
	}
	if l, e := tally.Ask(d); len(l) != 0 || e != want {
		t.Fatalf("Ask of %v: %v, %v, not %v", d, l, e, want)
	}
	for _, l := range [][]int{nil, {0}, {1}, {0, 1}} {
		if tally.ProveAsk(d, l) {
			t.Fatalf("ProveAsk of %v, %v, where there is %v", d, l, want)
		}
	}
}

// all returns the numbers from 0 on.
func all(count int) []int {
	l := make([]int, count)
	for i := range l {
		l[i] = i
	}
	return l
}

// full is a valid division with as much of everything as there may be.
func full() tally.Division {
	d := tally.Division{Members: api.MaxMembers, Rule: tally.Thirds, Need: api.MaxMembers, Quorum: api.MaxMembers, Tie: tally.Aye}
	for _, l := range listsOf(&d) {
		*l = all(api.MaxMembers)
	}
	for i := range api.MaxPairs {
		d.Pairs = append(d.Pairs, pair(2*i, 39-2*i))
	}
	for i := range api.MaxProxies {
		d.Proxies = append(d.Proxies, proxy(i%3, 39-i))
	}
	return d
}

// P7.1: what is just within the limits.
func TestP7_1CheckDivisionAccepts(t *testing.T) {
	change := func(change func(d *tally.Division)) {
		t.Helper()
		for _, d := range []tally.Division{lobbies(), {Members: 3, Tie: tally.Aye}} {
			change(&d)
			holdFault(t, d, api.OK)
		}
	}
	holdFault(t, full(), api.OK)
	for members := 1; members <= api.MaxMembers; members++ {
		holdFault(t, tally.Division{Members: members, Tie: tally.No}, api.OK)
		holdFault(t, written(slices.Repeat([]int{15}, members)...), api.OK)
	}
	for i := range 4 {
		for _, l := range [][]int{nil, {}, {0}, {2}, {0, 2}, {0, 1, 2}} {
			change(func(d *tally.Division) { *listsOf(d)[i] = l })
		}
	}
	for _, l := range [][]tally.Pair{nil, {}, {pair(0, 1)}, {pair(2, 0)}} {
		change(func(d *tally.Division) { d.Pairs = l })
	}
	for _, l := range [][]tally.Proxy{
		nil, {}, {proxy(0, 1)}, {proxy(2, 0)},
		// Somebody may give several votes; and those of a pair may be in a proxy.
		{proxy(0, 1), proxy(0, 2)}, {proxy(1, 2), proxy(1, 0)},
	} {
		change(func(d *tally.Division) { d.Proxies = l })
		change(func(d *tally.Division) { d.Proxies, d.Pairs = l, []tally.Pair{pair(0, 1)} })
	}
	for _, n := range []int{0, 1, 3, 4, 39, 40} {
		change(func(d *tally.Division) { d.Need = n })
		change(func(d *tally.Division) { d.Quorum = n })
	}
	for _, rule := range []uint8{tally.Simple, tally.Absolute, tally.Thirds} {
		for _, tie := range []uint8{tally.Aye, tally.No} {
			change(func(d *tally.Division) { d.Rule, d.Tie = rule, tie })
		}
	}
}

// P7.1: what is just outside.
func TestP7_1CheckDivisionRefuses(t *testing.T) {
	change := func(change func(d *tally.Division)) {
		t.Helper()
		for _, d := range []tally.Division{lobbies(), full()} {
			change(&d)
			holdFault(t, d, api.ErrArg)
		}
	}
	holdFault(t, tally.Division{}, api.ErrArg)
	for _, n := range []int{0, -1, 41, math.MinInt, math.MaxInt} {
		change(func(d *tally.Division) { d.Members = n })
		holdFault(t, tally.Division{Members: n, Tie: tally.No}, api.ErrArg)
	}
	for i := range 4 {
		for _, l := range [][]int{{-1}, {40}, {0, 0}, {1, 0}, {0, 2, 1}, {0, 1, 2, 2}, {math.MinInt}, {math.MaxInt}, {-1, 0}, {0, 40}, {0, math.MaxInt}, {math.MaxInt, math.MinInt}, make([]int, 1000)} {
			change(func(d *tally.Division) { *listsOf(d)[i] = l })
		}
		for members := 1; members < api.MaxMembers; members++ {
			d := tally.Division{Members: members, Tie: tally.No}
			*listsOf(&d)[i] = []int{members}
			holdFault(t, d, api.ErrArg)
		}
	}
	for _, n := range []int{-1, 41, math.MinInt, math.MaxInt} {
		change(func(d *tally.Division) { d.Need = n })
		change(func(d *tally.Division) { d.Quorum = n })
	}
	for _, n := range []uint8{3, 4, 128, 255} {
		change(func(d *tally.Division) { d.Rule = n })
		change(func(d *tally.Division) { d.Tie = n })
	}
	change(func(d *tally.Division) { d.Tie = tally.None })
}

// P7.1: pairs and proxies that cannot be.
func TestP7_1CheckDivisionRefusesPairs(t *testing.T) {
	many := tally.Division{Members: api.MaxMembers, Tie: tally.No}
	for i := range api.MaxPairs + 1 {
		many.Pairs = append(many.Pairs, pair(2*i, 2*i+1))
	}
	holdFault(t, many, api.ErrArg)
	for _, l := range [][]tally.Pair{
		{pair(0, 0)}, {pair(3, 3)}, {pair(0, 6)}, {pair(6, 0)}, {pair(-1, 0)}, {pair(0, -1)}, {pair(0, math.MaxInt)}, {pair(math.MinInt, 0)}, {pair(6, 6)},
		{pair(0, 1), pair(0, 1)}, {pair(0, 1), pair(1, 0)}, {pair(0, 1), pair(1, 2)}, {pair(0, 1), pair(2, 1)}, {pair(1, 0), pair(1, 2)}, {pair(1, 0), pair(2, 1)},
		{pair(0, 1), pair(2, 3), pair(4, 0)}, {pair(0, 1), pair(2, 3), pair(4, 4)}, make([]tally.Pair, 2000),
	} {
		d := lobbies()
		d.Pairs = l
		holdFault(t, d, api.ErrArg)
	}
	many.Pairs = nil
	for i := range api.MaxProxies + 1 {
		many.Proxies = append(many.Proxies, proxy(0, i+1))
	}
	holdFault(t, many, api.ErrArg)
	for _, l := range [][]tally.Proxy{
		{proxy(0, 0)}, {proxy(3, 3)}, {proxy(0, 6)}, {proxy(6, 0)}, {proxy(-1, 0)}, {proxy(0, -1)}, {proxy(0, math.MaxInt)}, {proxy(math.MinInt, 0)}, {proxy(6, 6)},
		{proxy(0, 1), proxy(0, 1)}, {proxy(0, 1), proxy(2, 1)}, {proxy(2, 1), proxy(3, 0), proxy(4, 1)},
		{proxy(0, 1), proxy(1, 0)}, {proxy(0, 1), proxy(1, 2)}, {proxy(1, 2), proxy(0, 1)}, {proxy(0, 1), proxy(2, 3), proxy(4, 5), proxy(3, 4)}, make([]tally.Proxy, 2000),
	} {
		d := lobbies()
		d.Proxies = l
		holdFault(t, d, api.ErrArg)
	}
}

// P7.1: any numbers at any places.
func TestP7_1CheckDivisionAny(t *testing.T) {
	d := dice(1)
	seen := map[api.Errno]int{}
	for range 30000 {
		x := tally.Division{Members: d.roll(-1, 7), Rule: uint8(d.roll(0, 3)), Need: d.roll(-1, 41), Quorum: d.roll(-1, 41), Tie: uint8(d.roll(0, 3))}
		if !d.one(4) {
			x.Members, x.Rule, x.Need, x.Quorum, x.Tie = d.roll(1, 6), 2, 40, 0, 1
		}
		for _, l := range listsOf(&x) {
			for m := range 7 {
				if d.one(3) && (m < x.Members || d.one(6)) {
					*l = append(*l, m)
				}
			}
			if d.one(20) {
				mix(&d, *l)
			}
		}
		for range d.roll(0, 2) {
			x.Pairs = append(x.Pairs, pair(d.roll(0, 5), d.roll(0, 5)))
		}
		for range d.roll(0, 2) {
			x.Proxies = append(x.Proxies, proxy(d.roll(0, 5), d.roll(0, 5)))
		}
		want := faultOf(x)
		holdFault(t, x, want)
		seen[want]++
	}
	if seen[api.OK] < 2000 || seen[api.ErrArg] < 2000 {
		t.Errorf("%v", seen)
	}
}

// holdClash holds what Clash returns of a valid division: the first one of those
// who clash, or that nobody does.
func holdClash(t *testing.T, d tally.Division, members ...int) {
	t.Helper()
	want, e := 0, api.ErrNone
	if len(members) > 0 {
		want, e = members[0], api.OK
	}
	if m, f := tally.Clash(d); m != want || f != e {
		t.Fatalf("Clash of %v: %v, %v, not %v, %v", d, m, f, want, e)
	}
}

// P7.1: whoever is on all four lists, and nobody else.
func TestP7_1Clash(t *testing.T) {
	holdClash(t, lobbies())
	for mark := range 16 {
		if mark == 15 {
			holdClash(t, written(mark), 0)
			holdClash(t, written(0, mark), 1)
			holdClash(t, written(3, 12, 5, mark, 0, mark), 3)
			continue
		}
		holdClash(t, written(mark))
		holdClash(t, written(mark, 15, mark), 1)
	}
	holdClash(t, full(), 0)
	marks := make([]int, api.MaxMembers)
	holdClash(t, written(marks...))
	marks[39] = 15
	holdClash(t, written(marks...), 39)
	// Pairs and proxies do not count, nor how many are doubtful.
	d := written(slices.Repeat([]int{1, 2, 4, 8, 15, 5}, 5)...)
	d.Pairs, d.Proxies = []tally.Pair{pair(4, 10)}, []tally.Proxy{proxy(4, 5)}
	holdClash(t, d, 4)
}

// P7.1: all small divisions, and others.
func TestP7_1ClashMany(t *testing.T) {
	clashing := 0
	hold := func(d tally.Division) {
		l := clashOf(d)
		holdClash(t, d, l...)
		clashing += min(1, len(l))
		if (len(truthsOf(d)) == 0) != (len(l) > 0) {
			t.Fatalf("%v has %d truths, and %v clash", d, len(truthsOf(d)), l)
		}
	}
	for d := range smallDivisions {
		hold(d)
	}
	d := dice(11)
	for range 2000 {
		x := d.division(12, 5)
		for range d.roll(0, 2) {
			m := d.roll(0, x.Members-1)
			for _, l := range listsOf(&x) {
				if at, found := slices.BinarySearch(*l, m); !found {
					*l = slices.Insert(*l, at, m)
				}
			}
		}
		hold(x)
	}
	if clashing < 5000 {
		t.Errorf("in %d divisions somebody clashes", clashing)
	}
}
