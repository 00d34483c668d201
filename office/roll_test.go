package office_test

import (
	"math"
	"slices"
	"strings"
	"testing"

	"palantype/api"
	"palantype/office"
)

// holdRefused holds that all calls with this roll return the error, whatever
// else they are given.
func holdRefused(t *testing.T, r office.Roll, want api.Errno) {
	t.Helper()
	if e := office.CheckRoll(r); e != want {
		t.Fatalf("CheckRoll of %v: %v, not %v", r, e, want)
	}
	if i, k, e := office.Clash(r); i != 0 || k != 0 || e != want {
		t.Fatalf("Clash of %v: %d, %d, %v, not %v", r, i, k, e, want)
	}
	if l, e := office.Learn(r); len(l) != 0 || e != want {
		t.Fatalf("Learn of %v: %v, %v, not %v", r, l, e, want)
	}
	for _, n := range []int{0, -1, math.MaxInt} {
		if s, p, v, e := office.Holds(r, n, n); s != 0 || len(p) != 0 || v || e != want {
			t.Fatalf("Holds of %v: %d, %v, %v, %v, not %v", r, s, p, v, e, want)
		}
		if l, e := office.Styles(r, n, n); len(l) != 0 || e != want {
			t.Fatalf("Styles of %v: %v, %v, not %v", r, l, e, want)
		}
		if s, e := office.Call(r, n, n); s != "" || e != want {
			t.Fatalf("Call of %v: %q, %v, not %v", r, s, e, want)
		}
	}
	for _, l := range [][]office.Dates{nil, make([]office.Dates, len(r.Terms))} {
		if office.ProveDates(r, l) {
			t.Fatalf("ProveDates of %v and %v", r, l)
		}
	}
}

// holdAccepted holds that CheckRoll has nothing against the roll.
func holdAccepted(t *testing.T, r office.Roll) {
	t.Helper()
	if e := office.CheckRoll(r); e != api.OK {
		t.Errorf("CheckRoll of %v: %v", r, e)
	}
}

// full is a roll with as much of all things as there may be.
func full() office.Roll {
	r := bare(api.MaxHolders, api.MaxOffices)
	for i := range api.MaxHeld {
		r.Terms = append(r.Terms, term(i%20, i%10, 20*i, 20*i+9, 20*i+10, 20*i+19))
	}
	for i := range api.MaxCalled {
		r.Names = append(r.Names, called(i%20, i/20, strings.Repeat("~", api.MaxWord)))
	}
	return r
}

// P5.1: what is a roll.
func TestP5_1CheckRollAccepts(t *testing.T) {
	empty := bare(1, 1)
	empty.Terms, empty.Names = []office.Term{}, []office.Called{}
	for _, r := range []office.Roll{example(), full(), bare(1, 1), empty, bare(20, 10)} {
		holdAccepted(t, r)
	}
	for _, x := range []office.Term{
		term(0, 0, 0, 0, 1, 1), term(0, 0, 99999, 99999, 100000, 100000), term(0, 0, 0, 99999, 100000, 100000), term(0, 0, 0, 0, 1, 100000), term(2, 1, 5, 9, 10, 12),
	} {
		r := example()
		r.Terms = append(r.Terms, x, x)
		holdAccepted(t, r)
	}
	for _, c := range []office.Called{called(0, 1, "a"), called(2, 0, " "), called(2, api.MaxRollDay, "~"), called(1, 250, "Lady Lee"), called(1, 5, strings.Repeat(" ", api.MaxWord)), called(0, 251, "Lady Lee")} {
		r := example()
		r.Names = append(r.Names, c)
		holdAccepted(t, r)
	}
}

// P5.1: what is none, apart from its names; whatever these are.
func TestP5_1CheckRollArg(t *testing.T) {
	far := []int{math.MinInt, -1, math.MaxInt}
	var list []office.Roll
	add := func(change func(*office.Roll)) {
		r := example()
		change(&r)
		list = append(list, r)
	}
	for _, n := range append(far, 0, 1, api.MaxHolders+1) {
		add(func(r *office.Roll) { r.Persons = n })
		add(func(r *office.Roll) { r.Persons, r.Terms, r.Names = min(n, 0), nil, nil })
	}
	for _, n := range append(far, 0, 1, api.MaxOffices+1) {
		add(func(r *office.Roll) { r.Offices = n })
		add(func(r *office.Roll) { r.Offices, r.Terms, r.Names = min(n, 0), nil, nil })
	}
	add(func(r *office.Roll) {
		*r = full()
		r.Terms = append(r.Terms, term(0, 0, 5000, 5000, 5001, 5001))
	})
	for _, n := range append(far, 3, 20) {
		add(func(r *office.Roll) { r.Terms[2].Person = n })
	}
	for _, n := range append(far, 2, 10) {
		add(func(r *office.Roll) { r.Terms[2].Office = n })
	}
	for _, x := range [][4]int{
		{-1, 5, 6, 7}, {-2, -1, 6, 7}, {5, 4, 6, 7}, {5, 6, 6, 7}, {5, 6, 5, 7}, {5, 6, 8, 7}, {7, 8, 5, 6}, {5, 100000, 100001, 100001}, {5, 6, 7, 100001}, {5, 6, 100001, 100002}, {0, 0, 0, 0}, {1, 1, 0, 0},
		{math.MinInt, 5, 6, 7}, {5, math.MaxInt, 6, 7}, {5, 6, math.MinInt, 7}, {5, 6, 7, math.MaxInt}, {math.MinInt, math.MinInt, math.MaxInt, math.MaxInt}, {math.MaxInt, math.MinInt, math.MaxInt, math.MinInt},
	} {
		add(func(r *office.Roll) { r.Terms[1] = term(1, 0, x[:]...) })
		add(func(r *office.Roll) { r.Terms = append(r.Terms, term(1, 0, x[:]...)) })
	}
	for _, r := range list {
		holdRefused(t, r, api.ErrArg)
		r.Names = append(r.Names, r.Names...)
		holdRefused(t, r, api.ErrArg)
		r.Names = make([]office.Called, api.MaxCalled+1)
		holdRefused(t, r, api.ErrArg)
	}
}

// P5.1: its names; how many there are is asked ahead of what they are, and this
// of all of them ahead of whether there are two.
func TestP5_1CheckRollNames(t *testing.T) {
	bad := []office.Called{
		called(-1, 5, "a"), called(3, 5, "a"), called(math.MinInt, 5, "a"), called(math.MaxInt, 5, "a"), called(19, 5, "a"),
		called(0, -1, "a"), called(0, api.MaxRollDay+1, "a"), called(0, math.MinInt, "a"), called(0, math.MaxInt, "a"),
		called(0, 5, ""), called(0, 5, strings.Repeat("a", api.MaxWord+1)), called(0, 5, "a\x1f"), called(0, 5, "\x7f"), called(0, 5, "a\x00b"), called(0, 5, "Zoë"), called(0, 5, "a\n"), called(0, 5, "\xff"),
	}
	for _, c := range bad {
		r := example()
		r.Names = append(r.Names, c)
		holdRefused(t, r, api.ErrArg)
		r.Names = []office.Called{called(0, 5, "a"), called(0, 5, "b"), c}
		holdRefused(t, r, api.ErrArg)
		r.Names = []office.Called{c, c}
		holdRefused(t, r, api.ErrArg)
		r = full()
		r.Names = append(r.Names, c)
		holdRefused(t, r, api.ErrLimit)
	}
	r := full()
	r.Names = append(r.Names, called(0, 50, "a"))
	holdRefused(t, r, api.ErrLimit)
	r.Names[0] = r.Names[1]
	holdRefused(t, r, api.ErrLimit)
	holdRefused(t, office.Roll{Persons: 1, Offices: 1, Names: make([]office.Called, 1000)}, api.ErrLimit)
	for _, c := range []office.Called{called(0, 0, "Ann Lee"), called(0, 0, "Lady Lee"), called(0, 250, "x")} {
		r := example()
		r.Names = append(r.Names, c)
		holdRefused(t, r, api.ErrTwice)
		// Also in a roll that cannot be.
		r.Terms = append(r.Terms, r.Terms...)
		holdRefused(t, r, api.ErrTwice)
	}
	r = full()
	r.Names[59] = called(0, 0, "a")
	holdRefused(t, r, api.ErrTwice)
}

// holdClash holds that Clash returns this of the roll.
func holdClash(t *testing.T, r office.Roll, first, second int, want api.Errno) {
	t.Helper()
	if i, k, e := office.Clash(r); i != first || k != second || e != want {
		t.Fatalf("Clash of %v: %d, %d, %v, not %d, %d, %v", r, i, k, e, first, second, want)
	}
}

// P5.1: which terms clash.
func TestP5_1Clash(t *testing.T) {
	for _, x := range []struct {
		a, b  office.Term
		clash bool
	}{
		{term(0, 0, 1, 1, 9, 9), term(0, 0, 1, 1, 9, 9), true}, {term(0, 0, 1, 1, 9, 9), term(1, 0, 5, 5, 20, 20), true}, {term(0, 0, 1, 1, 9, 9), term(0, 1, 1, 1, 9, 9), false},
		// One ends on the day on which the other one begins, or a day later.
		{term(0, 0, 1, 1, 9, 9), term(1, 0, 9, 9, 20, 20), false}, {term(0, 0, 1, 1, 9, 9), term(1, 0, 8, 8, 20, 20), true}, {term(0, 0, 1, 1, 9, 30), term(1, 0, 0, 9, 20, 20), false}, {term(0, 0, 1, 1, 9, 30), term(1, 0, 0, 8, 20, 20), true}, {term(0, 0, 0, 1, 10, 30), term(1, 0, 0, 9, 20, 20), true},
		// One is within the other one.
		{term(0, 0, 1, 1, 90, 90), term(1, 0, 5, 5, 6, 6), true}, {term(0, 0, 1, 1, 2, 90), term(1, 0, 5, 5, 6, 6), false}, {term(0, 0, 1, 89, 90, 90), term(1, 0, 5, 5, 6, 6), false}, {term(0, 0, 1, 5, 6, 90), term(1, 0, 1, 5, 6, 90), true}, {term(0, 0, 1, 5, 6, 90), term(1, 0, 1, 6, 7, 90), false},
		{term(0, 0, 0, 99999, 100000, 100000), term(1, 0, 0, 0, 1, 100000), false}, {term(0, 0, 0, 99999, 100000, 100000), term(1, 0, 0, 99999, 100000, 100000), true},
	} {
		for _, l := range [][]office.Term{{x.a, x.b}, {x.b, x.a}} {
			if x.clash {
				holdClash(t, bare(3, 2, l...), 0, 1, api.OK)
			} else {
				holdClash(t, bare(3, 2, l...), 0, 0, api.ErrNone)
			}
		}
	}
	holdClash(t, example(), 0, 0, api.ErrNone)
	holdClash(t, full(), 0, 0, api.ErrNone)
	holdClash(t, bare(1, 1), 0, 0, api.ErrNone)
	// Of several pairs.
	a, b, c := term(0, 0, 1, 1, 9, 9), term(1, 1, 1, 1, 9, 9), term(2, 2, 1, 1, 9, 9)
	for _, x := range []struct {
		terms         []office.Term
		first, second int
	}{{[]office.Term{a, b, c, c, b, a}, 0, 5}, {[]office.Term{a, b, c, c, b}, 1, 4}, {[]office.Term{a, b, c, c, c}, 2, 3}, {[]office.Term{a, b, a, b, a}, 0, 2}, {[]office.Term{c, a, b, b, a, a}, 1, 4}} {
		holdClash(t, bare(3, 3, x.terms...), x.first, x.second, api.OK)
	}
	last := full()
	last.Terms[38], last.Terms[39] = a, a
	last.Terms[0], last.Terms[10], last.Terms[20], last.Terms[30] = last.Terms[1], last.Terms[2], last.Terms[3], last.Terms[4]
	last.Terms[1].Office, last.Terms[2].Office, last.Terms[3].Office, last.Terms[4].Office = 0, 0, 0, 0
	holdClash(t, last, 38, 39, api.OK)
}

// P5.1: the clashes of many rolls.
func TestP5_1ClashOfMany(t *testing.T) {
	d := dice(1)
	clashes, later := 0, 0
	for range 20000 {
		r := d.smallRoll()
		first, second, found := firstClash(r)
		if found {
			holdClash(t, r, first, second, api.OK)
			clashes++
		} else {
			holdClash(t, r, 0, 0, api.ErrNone)
		}
		if first > 0 || second > first+1 {
			later++
		}
	}
	if clashes < 800 || clashes > 4000 || later < 200 {
		t.Errorf("%d clash, %d of them later", clashes, later)
	}
}

// cannotBe are rolls whose terms clash.
func cannotBe() []office.Roll {
	twice := example()
	twice.Terms = append(twice.Terms, twice.Terms[2])
	return []office.Roll{twice, bare(2, 1, term(0, 0, 1, 1, 9, 9), term(1, 0, 8, 8, 20, 20)), bare(2, 2, term(0, 1, 1, 5, 6, 90), term(0, 1, 1, 5, 6, 90))}
}

// P5.2: what is known.
func TestP5_2Learn(t *testing.T) {
	for _, x := range []struct {
		r    office.Roll
		want []office.Known
	}{
		{example(), []office.Known{known(100, 110, 200, 220), known(200, 230, 300, 300), known(150, 150, 400, 400)}},
		{bare(1, 1), nil},
		{bare(1, 1, term(0, 0, 0, 99999, 100000, 100000)), []office.Known{known(0, 99999, 100000, 100000)}},
		// In whatever order they are; only the next ones count.
		{bare(3, 1, term(2, 0, 0, 30, 40, 90), term(0, 0, 0, 10, 15, 80), term(1, 0, 0, 20, 22, 70)), []office.Known{known(22, 30, 40, 90), known(0, 10, 15, 20), known(15, 20, 22, 30)}},
		// Each other office is by itself.
		{bare(2, 2, term(0, 0, 0, 10, 15, 80), term(1, 1, 0, 20, 22, 70)), []office.Known{known(0, 10, 15, 80), known(0, 20, 22, 70)}},
		// There is just one day for it.
		{bare(2, 1, term(0, 0, 0, 10, 20, 80), term(1, 0, 0, 20, 22, 70)), []office.Known{known(0, 10, 20, 20), known(20, 20, 22, 70)}},
		// Nothing is narrowed by terms far away.
		{bare(1, 1, term(0, 0, 50, 55, 60, 65), term(0, 0, 65, 70, 80, 90), term(0, 0, 10, 20, 30, 49)), []office.Known{known(50, 55, 60, 65), known(65, 70, 80, 90), known(10, 20, 30, 49)}},
	} {
		if l, e := office.Learn(x.r); !slices.Equal(l, x.want) || e != api.OK {
			t.Errorf("Learn of %v: %v, %v, not %v", x.r, l, e, x.want)
		}
	}
	for _, r := range cannotBe() {
		if l, e := office.Learn(r); len(l) != 0 || e != api.ErrFail {
			t.Errorf("Learn of %v: %v, %v", r, l, e)
		}
	}
}

// P5.2 to P5.4: what is said of small rolls, by all their right dates.
func TestP5_2P5_3P5_4SmallRolls(t *testing.T) {
	d := dice(2)
	fail, narrowed, open, several := 0, 0, 0, 0
	for range 3000 {
		r := d.smallRoll()
		right := allRight(r)
		if len(right) == 0 {
			holdFail(t, r)
			fail++
			continue
		}
		want := knownBy(r, right)
		l, e := office.Learn(r)
		if !slices.Equal(l, want) || e != api.OK {
			t.Fatalf("Learn of %v: %v, %v, not %v", r, l, e, want)
		}
		for i, x := range r.Terms {
			if want[i] != (office.Known{Begin: x.From, End: x.To}) {
				narrowed++
			}
		}
		for day := range 50 {
			for of := range r.Offices {
				if h := heldBy(r, right, of, day); !holdHeld(t, r, of, day, h).vacant || len(h.perhaps) > 1 {
					open++
				}
			}
			for person := range r.Persons {
				styles := stylesBy(r, right, person, day)
				if holdStyles(t, r, person, day, styles); len(styles) > 1 {
					several++
				}
			}
		}
	}
	if fail < 200 || narrowed < 300 || open < 5000 || several < 3000 {
		t.Errorf("%d rolls cannot be; %d terms are narrowed; %d offices are not just vacant; %d persons have several styles", fail, narrowed, open, several)
	}
}

// holdFail holds that nothing is said of a roll that cannot be.
func holdFail(t *testing.T, r office.Roll) {
	t.Helper()
	l, e := office.Learn(r)
	s, p, v, f := office.Holds(r, 0, 0)
	m, g := office.Styles(r, r.Persons-1, api.MaxRollDay)
	if len(l) != 0 || e != api.ErrFail || s != 0 || len(p) != 0 || v || f != api.ErrFail || len(m) != 0 || g != api.ErrFail {
		t.Fatalf("%v: Learn: %v, %v; Holds: %d, %v, %v, %v; Styles: %v, %v", r, l, e, s, p, v, f, m, g)
	}
}

// holdHeld holds that Holds returns this, and returns it.
func holdHeld(t *testing.T, r office.Roll, of, day int, want held) held {
	t.Helper()
	s, p, v, e := office.Holds(r, of, day)
	if h := (held{s, p, v}); !sameHeld(h, want) || e != api.OK {
		t.Fatalf("Holds of %v, %d on %d: %v, %v, not %v", r, of, day, h, e, want)
	}
	return want
}

// holdStyles holds that Styles returns these.
func holdStyles(t *testing.T, r office.Roll, person, day int, want []int) {
	t.Helper()
	if l, e := office.Styles(r, person, day); !slices.Equal(l, want) || e != api.OK {
		t.Fatalf("Styles of %v, %d on %d: %v, %v, not %v", r, person, day, l, e, want)
	}
}

// P5.2 to P5.4: what is said of large rolls, by their cores.
func TestP5_2P5_3P5_4LargeRolls(t *testing.T) {
	d := dice(3)
	narrowed, open, several := 0, 0, 0
	for range 60 {
		r, _ := d.largeRoll(300)
		want := knownByCores(r)
		if l, e := office.Learn(r); !slices.Equal(l, want) || e != api.OK {
			t.Fatalf("Learn of %v: %v, %v, not %v", r, l, e, want)
		}
		for i, x := range r.Terms {
			if want[i] != (office.Known{Begin: x.From, End: x.To}) {
				narrowed++
			}
		}
		for range 40 {
			day, of, person := d.roll(0, 320), d.roll(0, r.Offices-1), d.roll(0, r.Persons-1)
			if len(r.Terms) > 0 && !d.one(4) {
				x := r.Terms[d.roll(0, len(r.Terms)-1)]
				day, of, person = d.roll(x.From.Lo, x.To.Hi), x.Office, x.Person
			}
			if h := heldByCores(r, of, day); !holdHeld(t, r, of, day, h).vacant || len(h.perhaps) > 1 {
				open++
			}
			styles := stylesByCores(r, person, day)
			if holdStyles(t, r, person, day, styles); len(styles) > 1 {
				several++
			}
		}
	}
	if narrowed < 200 || open < 300 || several < 300 {
		t.Errorf("%d terms are narrowed; %d offices are not just vacant; %d persons have several styles", narrowed, open, several)
	}
}

// P5.2: which dates are right.
func TestP5_2ProveDates(t *testing.T) {
	good := []office.Dates{dates(105, 210), dates(215, 300), dates(150, 400)}
	for _, x := range []struct {
		term int
		is   office.Dates
		want bool
	}{
		{0, good[0], true}, {0, dates(100, 200), true}, {0, dates(110, 215), true}, {0, dates(110, 216), false}, {0, dates(110, 220), false}, {0, dates(99, 210), false}, {0, dates(111, 210), false}, {0, dates(105, 199), false}, {0, dates(105, 221), false}, {0, dates(210, 105), false},
		{1, dates(210, 300), true}, {1, dates(209, 300), false}, {1, dates(190, 300), false}, {1, dates(230, 300), true}, {1, dates(231, 300), false}, {1, dates(215, 299), false}, {1, dates(215, 301), false},
		{2, dates(150, 401), false}, {2, dates(149, 400), false},
		{0, dates(math.MinInt, 210), false}, {0, dates(105, math.MaxInt), false}, {0, dates(math.MaxInt, math.MinInt), false}, {2, dates(0, 0), false},
	} {
		l := slices.Clone(good)
		l[x.term] = x.is
		if office.ProveDates(example(), l) != x.want {
			t.Errorf("ProveDates of %v", l)
		}
	}
	for _, l := range [][]office.Dates{nil, good[:2], append(slices.Clip(good), dates(150, 400)), {good[1], good[0], good[2]}, make([]office.Dates, 1000)} {
		if office.ProveDates(example(), l) {
			t.Errorf("ProveDates of %v", l)
		}
	}
	if !office.ProveDates(bare(1, 1), nil) || office.ProveDates(bare(0, 1), nil) || office.ProveDates(bare(1, 1), good[:1]) {
		t.Errorf("ProveDates of no terms")
	}
	named := example()
	named.Names = append(named.Names, called(1, 5, "a"), called(1, 5, "b"))
	if office.ProveDates(named, good) {
		t.Errorf("ProveDates of a roll with a name twice")
	}
	// Whoever has an office twice cannot have it at once.
	if r := bare(1, 1, term(0, 0, 1, 5, 6, 9), term(0, 0, 2, 7, 12, 12)); office.ProveDates(r, []office.Dates{dates(1, 7), dates(6, 12)}) || !office.ProveDates(r, []office.Dates{dates(1, 6), dates(6, 12)}) {
		t.Errorf("ProveDates of two terms of one person")
	}
}

// P5.2: dates that are thrown.
func TestP5_2ProveDatesOfMany(t *testing.T) {
	d := dice(22)
	right, wrong := 0, 0
	for range 3000 {
		r := d.smallRoll()
		for range 10 {
			var l []office.Dates
			for _, x := range r.Terms {
				away := 0
				if d.one(12) {
					away = 1
				}
				l = append(l, dates(d.roll(x.From.Lo-away, x.From.Hi+away), d.roll(x.To.Lo-away, x.To.Hi+away)))
			}
			want := isRight(r, l)
			if office.ProveDates(r, l) != want {
				t.Fatalf("ProveDates of %v, %v: not %v", r, l, want)
			}
			if want {
				right++
			} else {
				wrong++
			}
		}
	}
	if right < 8000 || wrong < 8000 {
		t.Errorf("%d are right, %d are not", right, wrong)
	}
}

// P5.3
func TestP5_3Holds(t *testing.T) {
	for _, x := range []struct {
		of, day int
		want    held
	}{
		{0, 105, held{-1, []int{0}, true}}, {0, 150, held{0, []int{0}, false}}, {0, 210, held{-1, []int{0, 1}, true}}, {0, 225, held{-1, []int{1}, true}},
		{0, 0, held{-1, nil, true}}, {0, 99, held{-1, nil, true}}, {0, 100, held{-1, []int{0}, true}}, {0, 109, held{-1, []int{0}, true}}, {0, 110, held{0, []int{0}, false}}, {0, 199, held{0, []int{0}, false}}, {0, 200, held{-1, []int{0, 1}, true}}, {0, 219, held{-1, []int{0, 1}, true}}, {0, 220, held{-1, []int{1}, true}}, {0, 229, held{-1, []int{1}, true}}, {0, 230, held{1, []int{1}, false}}, {0, 299, held{1, []int{1}, false}}, {0, 300, held{-1, nil, true}}, {0, api.MaxRollDay, held{-1, nil, true}},
		{1, 149, held{-1, nil, true}}, {1, 150, held{0, []int{0}, false}}, {1, 399, held{0, []int{0}, false}}, {1, 400, held{-1, nil, true}},
	} {
		holdHeld(t, example(), x.of, x.day, x.want)
	}
	// One person perhaps holds it by one term or another one: not surely, as it
	// may be vacant between them.
	again := bare(2, 1, term(1, 0, 0, 5, 10, 20), term(1, 0, 8, 15, 30, 30), term(0, 0, 20, 40, 50, 50))
	for day, want := range map[int]held{7: {1, []int{1}, false}, 12: {-1, []int{1}, true}, 15: {1, []int{1}, false}, 30: {-1, []int{0}, true}, 29: {1, []int{1}, false}} {
		holdHeld(t, again, 0, day, want)
	}
	// There is just one day on which it can change hands.
	exact := bare(2, 1, term(1, 0, 0, 5, 10, 20), term(0, 0, 0, 10, 30, 30))
	for day, want := range map[int]held{9: {1, []int{1}, false}, 10: {0, []int{0}, false}} {
		holdHeld(t, exact, 0, day, want)
	}
	// All may have had it, by rising numbers.
	many := bare(20, 10)
	var all []int
	for i := range 20 {
		many.Terms = append(many.Terms, term(19-i, 9, 0, 100+i, 101+i, 1000))
		all = append(all, i)
	}
	holdHeld(t, many, 9, 100, held{19, []int{19}, false})
	for i := range many.Terms {
		many.Terms[i] = term(19-i, 9, 0, 100+2*i, 101+2*i, 1000)
	}
	holdHeld(t, many, 9, 101, held{-1, []int{18, 19}, true})
	holdHeld(t, many, 9, 99, held{-1, []int{19}, true})
	holdHeld(t, many, 8, 100, held{-1, nil, true})
	holdHeld(t, bare(1, 1), 0, 0, held{-1, nil, true})
}

// P5.3, P5.4, P5.5: for which numbers and days nothing is said; this is asked
// ahead of whether the roll can be.
func TestP5_3P5_4P5_5Range(t *testing.T) {
	far := []int{math.MinInt, math.MinInt + 1, -1, api.MaxRollDay + 1, math.MaxInt}
	for _, r := range append(cannotBe(), example(), bare(1, 1), full()) {
		for _, n := range append(far, r.Offices) {
			for _, day := range []int{0, 5, -1} {
				if s, p, v, e := office.Holds(r, n, day); s != 0 || len(p) != 0 || v || e != api.ErrRange {
					t.Errorf("Holds of %v, %d: %d, %v, %v, %v", r, n, s, p, v, e)
				}
			}
		}
		for _, n := range append(far, r.Persons) {
			for _, day := range []int{0, 5, -1} {
				if l, e := office.Styles(r, n, day); len(l) != 0 || e != api.ErrRange {
					t.Errorf("Styles of %v, %d: %v, %v", r, n, l, e)
				}
				if s, e := office.Call(r, n, day); s != "" || e != api.ErrRange {
					t.Errorf("Call of %v, %d: %q, %v", r, n, s, e)
				}
			}
		}
		for _, day := range far {
			_, _, _, e := office.Holds(r, 0, day)
			_, f := office.Styles(r, 0, day)
			_, g := office.Call(r, 0, day)
			if e != api.ErrRange || f != api.ErrRange || g != api.ErrRange {
				t.Errorf("%v on %d: %v, %v, %v", r, day, e, f, g)
			}
		}
	}
	for _, r := range cannotBe() {
		holdFail(t, r)
		if _, _, _, e := office.Holds(r, r.Offices-1, api.MaxRollDay); e != api.ErrFail {
			t.Errorf("Holds of %v: %v", r, e)
		}
		if _, e := office.Styles(r, 0, 0); e != api.ErrFail {
			t.Errorf("Styles of %v: %v", r, e)
		}
	}
}

// P5.4
func TestP5_4Styles(t *testing.T) {
	for _, x := range []struct {
		person, day int
		want        []int
	}{
		{0, 105, []int{-1, 0}}, {0, 210, []int{0, 1}}, {0, 250, []int{1}},
		{0, 99, []int{-1}}, {0, 110, []int{0}}, {0, 160, []int{0}}, {0, 219, []int{0, 1}}, {0, 220, []int{1}}, {0, 400, []int{-1}}, {1, 199, []int{-1}}, {1, 200, []int{-1, 0}}, {1, 230, []int{0}}, {2, 210, []int{-1}}, {0, 0, []int{-1}}, {0, api.MaxRollDay, []int{-1}},
	} {
		holdStyles(t, example(), x.person, x.day, x.want)
	}
	// Many offices at once; what stands behind one that is held surely does not
	// count.
	r := bare(2, 10)
	for of := range 10 {
		r.Terms = append(r.Terms, term(1, of, 10, 20, 30, 40))
	}
	holdStyles(t, r, 1, 15, []int{-1, 0, 1, 2, 3, 4, 5, 6, 7, 8, 9})
	holdStyles(t, r, 1, 25, []int{0})
	holdStyles(t, r, 0, 25, []int{-1})
	r.Terms[4] = term(1, 4, 10, 12, 30, 40)
	holdStyles(t, r, 1, 15, []int{0, 1, 2, 3, 4})
	r.Terms[4] = term(0, 4, 10, 12, 30, 40)
	holdStyles(t, r, 1, 15, []int{-1, 0, 1, 2, 3, 5, 6, 7, 8, 9})
	holdStyles(t, r, 0, 15, []int{4})
}

// holdCall holds that Call returns this text, or, if it is none, ErrNone.
func holdCall(t *testing.T, r office.Roll, person, day int, want string) {
	t.Helper()
	e := api.OK
	if want == "" {
		e = api.ErrNone
	}
	if s, f := office.Call(r, person, day); s != want || f != e {
		t.Fatalf("Call of %v, %d on %d: %q, %v, not %q, %v", r, person, day, s, f, want, e)
	}
}

// P5.5
func TestP5_5Call(t *testing.T) {
	for day, want := range map[int]string{0: "Ann Lee", 1: "Ann Lee", 249: "Ann Lee", 250: "Lady Lee", 251: "Lady Lee", api.MaxRollDay: "Lady Lee"} {
		holdCall(t, example(), 0, day, want)
		holdCall(t, example(), 1, day, "")
	}
	r := example()
	r.Names = []office.Called{called(1, 50, "c"), called(1, 5, "a"), called(0, 30, "x"), called(1, 20, "b"), called(2, 100000, " ")}
	for day, want := range map[int]string{0: "", 4: "", 5: "a", 19: "a", 20: "b", 49: "b", 50: "c", 99999: "c"} {
		holdCall(t, r, 1, day, want)
	}
	holdCall(t, r, 0, 29, "")
	holdCall(t, r, 0, 30, "x")
	holdCall(t, r, 2, 99999, "")
	holdCall(t, r, 2, 100000, " ")
	// A roll that cannot be has names, too.
	holdCall(t, cannotBe()[0], 0, 249, "Ann Lee")
	holdCall(t, cannotBe()[1], 0, 249, "")
}

// P5.5: the names of many rolls.
func TestP5_5CallOfMany(t *testing.T) {
	d := dice(5)
	for range 300 {
		r := bare(d.roll(1, 20), 1)
		r.Names = d.names(r.Persons, d.roll(0, api.MaxCalled), 40)
		for person := range r.Persons {
			for day := range 45 {
				holdCall(t, r, person, day, calledOn(r, person, day))
			}
		}
	}
}
