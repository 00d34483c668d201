package take_test

import (
	"math"
	"slices"
	"testing"

	"palantype/api"
	"palantype/take"
)

// faulty are sittings and offices of which at least one is refused, with the
// error that every call with both returns.
func faulty() []struct {
	s    take.Sitting
	o    take.Office
	want api.Errno
} {
	slack := office()
	slack.Delay = -1
	return []struct {
		s    take.Sitting
		o    take.Office
		want api.Errno
	}{
		{take.Sitting{}, office(), api.ErrArg},
		{plain(10, 4, 5), office(), api.ErrArg},
		{plain(41, 1, 1), office(), api.ErrLimit},
		{plain(41, 1, 2), office(), api.ErrArg},
		{sitting(), take.Office{}, api.ErrArg},
		{sitting(), slack, api.ErrArg},
		{with(plain(5, 4, 3), span(0, 5)), slack, api.ErrArg},
		// The sitting is asked ahead of the office.
		{plain(41, 1, 1), slack, api.ErrLimit},
	}
}

// alone is an office of one reporter with nothing to wait for.
func alone(hi, rest, due, delay int) take.Office {
	return take.Office{Due: due, Delay: delay, Crew: []take.Reporter{{Slow: slow(0, hi), Rest: rest}}}
}

// turned is a sitting of takes of 10 and of 14 seconds, at an office whose
// reporter 1 is late with 14; so the reporter 0 has to keep free for these.
func turned() (take.Sitting, take.Office) {
	return with(plain(25, 10, 5), span(10, 11)), take.Office{Due: 20, Crew: []take.Reporter{{Slow: slow(1, 1)}, {Slow: slow(2, 2)}}}
}

// P1.2
func TestP1_2Examples(t *testing.T) {
	pair := office()
	pair.Crew = pair.Crew[:2]
	deadEnd, swap := turned()
	// Behind its two takes there is one at once that nobody can have.
	further := with(plain(40, 10, 5), span(10, 11), span(25, 26))
	ten := take.Sitting{Length: 10, Long: 10, Short: 1}
	for _, x := range []struct {
		s    take.Sitting
		o    take.Office
		rota []int // nil: one fails
		fail int
	}{
		{sitting(), office(), []int{1, 0, 2, 1, 0}, 0},
		{sitting(), pair, nil, 2},
		{deadEnd, swap, []int{1, 0}, 0},
		{further, swap, nil, 2},
		// Late by no second, and by one; by Slow, and by Delay.
		{ten, alone(1, 0, 10, 0), []int{0}, 0}, {ten, alone(1, 0, 9, 0), nil, 0}, {ten, alone(1, 0, 12, 2), []int{0}, 0}, {ten, alone(1, 0, 11, 2), nil, 0},
		{ten, alone(0, 0, 0, 0), []int{0}, 0}, {ten, alone(0, 0, 0, 1), nil, 0}, {ten, alone(0, api.MaxDue, 0, 0), []int{0}, 0},
		// Free for the next take by no second, or one too late.
		{with(plain(30, 10, 1), span(10, 20)), alone(1, 0, 99, 0), []int{0, 0}, 0}, {with(plain(30, 10, 1), span(10, 19)), alone(1, 0, 99, 0), nil, 1},
		{with(plain(30, 10, 1), span(10, 20)), alone(0, 10, 99, 0), []int{0, 0}, 0}, {with(plain(30, 10, 1), span(10, 20)), alone(0, 11, 99, 0), nil, 1},
		{with(plain(30, 10, 1), span(10, 20)), alone(0, 0, 99, 10), []int{0, 0}, 0}, {with(plain(30, 10, 1), span(10, 20)), alone(0, 0, 99, 11), nil, 1},
		{with(plain(40, 10, 1), span(10, 30)), alone(1, 7, 99, 3), []int{0, 0}, 0}, {with(plain(40, 10, 1), span(10, 30)), alone(1, 7, 99, 4), nil, 1},
		// Nobody is late with no take.
		{with(plain(9, 4, 1), span(0, 9)), alone(api.MaxSlow, api.MaxDue, 0, api.MaxDue), []int{}, 0},
	} {
		l, e := take.Rota(x.s, x.o)
		n, f := take.Fails(x.s, x.o)
		if x.rota != nil && (!slices.Equal(l, x.rota) || e != api.OK || n != 0 || f != api.ErrNone) {
			t.Errorf("%v, %v: the rota %v, %v, not %v; Fails: %d, %v", x.s, x.o, l, e, x.rota, n, f)
		}
		if x.rota == nil && (len(l) != 0 || e != api.ErrFail || n != x.fail || f != api.OK) {
			t.Errorf("%v, %v: the rota %v, %v; Fails: %d, %v, not %d", x.s, x.o, l, e, n, f, x.fail)
		}
	}
	for _, x := range faulty() {
		if l, e := take.Rota(x.s, x.o); len(l) != 0 || e != x.want {
			t.Errorf("Rota of %v, %v: %v, %v, not %v", x.s, x.o, l, e, x.want)
		}
		if n, e := take.Fails(x.s, x.o); n != 0 || e != x.want {
			t.Errorf("Fails of %v, %v: %d, %v, not %v", x.s, x.o, n, e, x.want)
		}
	}
}

// P1.2
func TestP1_2AllRotas(t *testing.T) {
	d := dice(2)
	var right, failed, turned int
	for range 4000 {
		s, o := d.smallSitting(), d.smallOffice(api.MaxCrew)
		takes := cutBySeconds(s)
		want, most := leastRight(takes, o, anybody)
		l, e := take.Rota(s, o)
		n, f := take.Fails(s, o)
		if want == nil {
			failed++
			if len(l) != 0 || e != api.ErrFail || n != most || f != api.OK {
				t.Fatalf("%v, %v: the rota %v, %v; Fails: %d, %v, not %d", s, o, l, e, n, f, most)
			}
			continue
		}
		right++
		if !slices.Equal(l, want) || e != api.OK || n != 0 || f != api.ErrNone {
			t.Fatalf("%v, %v: the rota %v, %v, not %v; Fails: %d, %v", s, o, l, e, want, n, f)
		}
		if least := eachLeast(takes, o); !slices.Equal(least, want) {
			turned++
		}
	}
	// The inputs are worth it only if there are enough of each kind.
	if right < 500 || failed < 500 || turned < 50 {
		t.Errorf("%d with a rota, %d without one, %d where the least reporter is not always the one", right, failed, turned)
	}
}

// eachLeast gives each take to the least reporter who can have it then, as
// long as there is one.
func eachLeast(takes []take.Span, o take.Office) []int {
	var l []int
	for range takes {
		r := 0
		for r < len(o.Crew) && !lastKeeps(takes, o, append(slices.Clip(l), r)) {
			r++
		}
		if r == len(o.Crew) {
			break
		}
		l = append(l, r)
	}
	return l
}

// P1.2: as many takes and reporters as there may be, and no rota: five takes
// at the end are too long for the reporter who is never busy, and the others
// can have one of them each.
func TestP1_2Large(t *testing.T) {
	var s take.Sitting
	for i := range api.MaxTakes {
		length := 100
		if i >= 35 {
			length = 149
		}
		s.Pauses = append(s.Pauses, span(s.Length+length, s.Length+2*length))
		s.Length += 2 * length
	}
	s.Long, s.Short = 100, 50
	for _, at := range []int{0, 4} {
		o := take.Office{Due: 100}
		for i := range 4 {
			o.Crew = append(o.Crew, take.Reporter{Rest: 4000 + 50*i})
		}
		o.Crew = slices.Insert(o.Crew, at, take.Reporter{Slow: slow(0, 1)})
		if l, e := take.Rota(s, o); len(l) != 0 || e != api.ErrFail {
			t.Errorf("Rota: %v, %v", l, e)
		}
		if n, e := take.Fails(s, o); n != 39 || e != api.OK {
			t.Errorf("Fails: %d, %v", n, e)
		}
	}
	// With one reporter who can have all of them there is one.
	o := take.Office{Crew: make([]take.Reporter, api.MaxCrew)}
	for i := range 4 {
		o.Crew[i].Rest = api.MaxDue
	}
	want := append([]int{0, 1, 2, 3}, slices.Repeat([]int{4}, 36)...)
	if l, e := take.Rota(s, o); !slices.Equal(l, want) || e != api.OK {
		t.Errorf("Rota of one who has most of them: %v, %v", l, e)
	}
}

// P1.3
func TestP1_3ProveRota(t *testing.T) {
	right := []int{1, 0, 2, 1, 0}
	for _, x := range []struct {
		rota []int
		want bool
	}{
		{right, true},
		{[]int{1, 0, 2, 1, 1}, false}, {[]int{1, 0, 2, 0, 1}, false}, {[]int{2, 0, 1, 2, 0}, false}, {[]int{0, 1, 2, 0, 1}, false}, {[]int{1, 0, 0, 1, 2}, false},
		// Not one reporter of the crew for each take.
		{nil, false}, {right[:4], false}, {append(slices.Clip(right), 0), false},
		{[]int{1, 0, 2, 1, 3}, false}, {[]int{1, 0, 2, 1, -1}, false}, {[]int{math.MaxInt, 0, 2, 1, 0}, false}, {[]int{math.MinInt, 0, 2, 1, 0}, false},
	} {
		if got := take.ProveRota(sitting(), office(), x.rota); got != x.want {
			t.Errorf("ProveRota of %v: %v", x.rota, got)
		}
	}
	for _, x := range faulty() {
		for _, rota := range [][]int{right, nil, make([]int, len(cutAnyway(x.s)))} {
			if take.ProveRota(x.s, x.o, rota) {
				t.Errorf("ProveRota of %v, %v and %v is true", x.s, x.o, rota)
			}
		}
	}
	empty := with(plain(9, 4, 1), span(0, 9))
	if !take.ProveRota(empty, office(), nil) || !take.ProveRota(empty, office(), []int{}) || take.ProveRota(empty, office(), []int{0}) {
		t.Error("ProveRota of no takes")
	}
}

// cutAnyway returns the takes, if the sitting is right but for their number.
func cutAnyway(s take.Sitting) []take.Span {
	if s.Short < 1 || s.Short > s.Long {
		return nil
	}
	return cutBySeconds(s)
}

// P1.3
func TestP1_3AllLists(t *testing.T) {
	d := dice(3)
	var right, wrong int
	for range 1500 {
		s, o := d.smallSitting(), d.smallOffice(3)
		takes := cutBySeconds(s)
		lists := [][]int{d.list(len(takes), len(o.Crew)), d.rightRota(takes, o)}
		if len(takes) < 5 {
			lists = append(lists, allLists(len(takes), len(o.Crew))...)
		}
		for _, l := range lists {
			want := len(l) == len(takes) && isRight(takes, o, l)
			if want {
				right++
			} else {
				wrong++
			}
			if take.ProveRota(s, o, l) != want {
				t.Fatalf("ProveRota of %v, %v and %v is not %v", s, o, l, want)
			}
		}
	}
	if right < 1000 || wrong < 1000 {
		t.Errorf("%d right lists, %d others", right, wrong)
	}
}

// P1.4
func TestP1_4Done(t *testing.T) {
	rota := []int{1, 0, 2, 1, 0}
	ones := slices.Repeat([]take.Real{{Slow: 1, Delay: 10}}, 5)
	if l, e := take.Done(sitting(), office(), rota, ones); !slices.Equal(l, []int{370, 630, 870, 1050, 1150}) || e != api.OK {
		t.Errorf("Done: %v, %v", l, e)
	}
	// The ends of all ranges; and a rota that is not right.
	ends := []take.Real{{Slow: 2, Delay: 30}, {}, {Slow: 1}, {Slow: 1, Delay: 30}, {Delay: 30}}
	if l, e := take.Done(sitting(), office(), rota, ends); !slices.Equal(l, []int{570, 400, 860, 1070, 1030}) || e != api.OK {
		t.Errorf("Done at the ends: %v, %v", l, e)
	}
	if l, e := take.Done(sitting(), office(), []int{1, 1, 1, 1, 1}, ones); !slices.Equal(l, []int{370, 630, 870, 1050, 1150}) || e != api.OK {
		t.Errorf("Done of one reporter: %v, %v", l, e)
	}
	if l, e := take.Done(with(plain(9, 4, 1), span(0, 9)), office(), nil, nil); len(l) != 0 || e != api.OK {
		t.Errorf("Done of no takes: %v, %v", l, e)
	}
	d := dice(4)
	for range 1000 {
		s, o := d.smallSitting(), d.smallOffice(api.MaxCrew)
		takes := cutBySeconds(s)
		rota := d.list(len(takes), len(o.Crew))
		real := d.real(o, rota)
		l, e := take.Done(s, o, rota, real)
		if len(l) != len(takes) || e != api.OK {
			t.Fatalf("Done of %v, %v, %v, %v: %v, %v", s, o, rota, real, l, e)
		}
		for i := range takes {
			if l[i] != doneAt(takes[i], real[i]) {
				t.Fatalf("Done of %v, %v, %v, %v: %v", s, o, rota, real, l)
			}
		}
	}
}

// P1.4
func TestP1_4Refused(t *testing.T) {
	rota := []int{1, 0, 2, 1, 0}
	ones := slices.Repeat([]take.Real{{Slow: 1, Delay: 10}}, 5)
	change := func(i int, x take.Real) []take.Real {
		l := slices.Clone(ones)
		l[i] = x
		return l
	}
	for _, x := range []struct {
		rota []int
		real []take.Real
		want api.Errno
	}{
		{rota[:4], ones, api.ErrRange}, {append(slices.Clip(rota), 0), ones, api.ErrRange}, {nil, ones, api.ErrRange}, {nil, nil, api.ErrRange},
		{[]int{1, 0, 2, 1, 3}, ones, api.ErrRange}, {[]int{-1, 0, 2, 1, 0}, ones, api.ErrRange}, {[]int{1, 0, math.MaxInt, 1, 0}, ones, api.ErrRange},
		{rota, ones[:4], api.ErrArg}, {rota, append(slices.Clip(ones), ones[0]), api.ErrArg}, {rota, nil, api.ErrArg},
		{rota, change(0, take.Real{Slow: 0}), api.ErrArg}, {rota, change(0, take.Real{Slow: 3}), api.ErrArg}, {rota, change(4, take.Real{Slow: -1}), api.ErrArg}, {rota, change(4, take.Real{Slow: 2}), api.ErrArg},
		{rota, change(2, take.Real{Delay: -1}), api.ErrArg}, {rota, change(2, take.Real{Delay: 31}), api.ErrArg},
		{rota, change(2, take.Real{Slow: math.MaxInt}), api.ErrArg}, {rota, change(2, take.Real{Delay: math.MinInt}), api.ErrArg},
		// The rota is asked ahead of what came true.
		{rota[:4], ones[:3], api.ErrRange}, {[]int{1, 0, 2, 1, 3}, change(0, take.Real{Slow: 3}), api.ErrRange},
	} {
		if l, e := take.Done(sitting(), office(), x.rota, x.real); len(l) != 0 || e != x.want {
			t.Errorf("Done of %v, %v: %v, %v, not %v", x.rota, x.real, l, e, x.want)
		}
	}
	for _, x := range faulty() {
		if l, e := take.Done(x.s, x.o, []int{9}, nil); len(l) != 0 || e != x.want {
			t.Errorf("Done of %v, %v: %v, %v, not %v", x.s, x.o, l, e, x.want)
		}
	}
}

// P1.8
func TestP1_8AnyDelay(t *testing.T) {
	d := dice(8)
	checked := 0
	for range 1500 {
		s, o := d.smallSitting(), d.smallOffice(api.MaxCrew)
		takes, _ := take.Takes(s)
		for _, rota := range [][]int{d.rightRota(takes, o), d.list(len(takes), len(o.Crew))} {
			if !take.ProveRota(s, o, rota) {
				continue
			}
			for range 6 {
				keepsAll(t, s, o, rota, d.real(o, rota))
				checked++
			}
		}
		if rota, e := take.Rota(s, o); e == api.OK {
			keepsAll(t, s, o, rota, d.real(o, rota))
			checked++
		}
	}
	if checked < 3000 {
		t.Errorf("%d times of right rotas were looked at", checked)
	}
}

// keepsAll checks that the rota keeps breaks and times, if that comes true.
func keepsAll(t *testing.T, s take.Sitting, o take.Office, rota []int, real []take.Real) {
	t.Helper()
	takes, _ := take.Takes(s)
	done, e := take.Done(s, o, rota, real)
	if e != api.OK || len(done) != len(takes) {
		t.Fatalf("Done of %v, %v, %v, %v: %v, %v", s, o, rota, real, done, e)
	}
	for i := range takes {
		if done[i] > takes[i].To+o.Due {
			t.Fatalf("%v, %v, %v: the take %d is late with %v", s, o, rota, i, real)
		}
		if had := before(rota[:i+1]); had >= 0 && takes[i].From < done[had]+o.Crew[rota[i]].Rest {
			t.Fatalf("%v, %v, %v: no break before the take %d with %v", s, o, rota, i, real)
		}
	}
}

// P1.9
func TestP1_9TheTakeThatFails(t *testing.T) {
	d := dice(9)
	failed := 0
	for range 3000 {
		s, o := d.smallSitting(), d.smallOffice(3)
		takes, _ := take.Takes(s)
		rota, e := take.Rota(s, o)
		n, f := take.Fails(s, o)
		if (e == api.OK) == (f == api.OK) || (e == api.OK) != take.ProveRota(s, o, rota) && len(takes) > 0 {
			t.Fatalf("%v, %v: the rota %v, %v, and the take %d, %v", s, o, rota, e, n, f)
		}
		if f != api.OK || n > 5 {
			continue
		}
		failed++
		for _, l := range allLists(n+1, len(o.Crew)) {
			if isRight(takes[:n+1], o, l) || take.ProveRota(until(s, takes[n].To), o, l) {
				t.Fatalf("%v, %v: the take %d fails, but %v is right", s, o, n, l)
			}
		}
		right := func(l []int) bool { return isRight(takes[:n], o, l) }
		if !slices.ContainsFunc(allLists(n, len(o.Crew)), right) {
			t.Fatalf("%v, %v: no list is right for those before the take %d", s, o, n)
		}
		if n > 0 {
			if _, e := take.Rota(until(s, takes[n-1].To), o); e != api.OK {
				t.Fatalf("%v, %v: no rota for those before the take %d: %v", s, o, n, e)
			}
		}
	}
	if failed < 500 {
		t.Errorf("%d takes failed", failed)
	}
}

// until returns the sitting up to the end of a take.
func until(s take.Sitting, end int) take.Sitting {
	s.Length = end
	s.Pauses = slices.DeleteFunc(slices.Clone(s.Pauses), func(p take.Span) bool { return p.From >= end })
	return s
}

// P1.10
func TestP1_10Easier(t *testing.T) {
	d := dice(10)
	var better, same int
	for range 1500 {
		s, o := d.smallSitting(), d.smallOffice(api.MaxCrew-1)
		takes, _ := take.Takes(s)
		rota := d.rightRota(takes, o)
		n, e := take.Fails(s, o)
		for _, easy := range easier(&d, o) {
			if rota != nil && !take.ProveRota(s, easy, rota) {
				t.Fatalf("%v: %v is right with %v, not with %v", s, rota, o, easy)
			}
			m, f := take.Fails(s, easy)
			if e == api.ErrNone && f != api.ErrNone || e == api.OK && f == api.OK && m < n {
				t.Fatalf("%v: with %v the take %d, %v, fails, with %v the take %d, %v", s, o, n, e, easy, m, f)
			}
			if m == n && e == f {
				same++
			} else {
				better++
			}
		}
	}
	if better < 200 || same < 200 {
		t.Errorf("%d times it was easier, %d times not", better, same)
	}
}

// easier returns offices in which one thing is easier.
func easier(d *dice, o take.Office) []take.Office {
	var list []take.Office
	change := func(f func(*take.Office)) {
		c := o
		c.Crew = slices.Clone(o.Crew)
		f(&c)
		list = append(list, c)
	}
	r := d.roll(0, len(o.Crew)-1)
	change(func(c *take.Office) { c.Crew = append(c.Crew, d.smallOffice(1).Crew[0]) })
	change(func(c *take.Office) { c.Due += d.roll(1, 20) })
	change(func(c *take.Office) { c.Delay = d.roll(0, c.Delay) })
	change(func(c *take.Office) { c.Crew[r].Rest = d.roll(0, c.Crew[r].Rest) })
	change(func(c *take.Office) { c.Crew[r].Slow.Hi = d.roll(c.Crew[r].Slow.Lo, c.Crew[r].Slow.Hi) })
	return list
}
