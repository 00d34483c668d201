package mend_test

import (
	"math"
	"slices"
	"strconv"
	"strings"
	"testing"

	"palantype/api"
	"palantype/mend"
)

// compare holds what Decide and Versions return for valid arguments against
// what is right, and returns the answers.
func compare(t *testing.T, w world, requests []mend.Request) []api.Errno {
	t.Helper()
	want := w.answersOf(requests)
	answers, e := mend.Decide(w.l, w.swaps, w.r, requests)
	if !slices.Equal(answers, want) || e != api.OK {
		t.Fatalf("Decide of %v, %v: %v, %v; not %v", w, requests, answers, e, want)
	}
	versions, e := mend.Versions(w.l, w.swaps, w.r, requests)
	if right := w.versionsOf(requests, want); !slices.EqualFunc(versions, right, sameSegment) || e != api.OK {
		t.Fatalf("Versions of %v, %v: %v, %v; not %v", w, requests, versions, e, right)
	}
	return answers
}

// sentence is the report of the chapter's examples, with their lexicon and swap.
func sentence() world {
	return world{example(), tenTo12(), report("Smith1 paid1 ten1 yes2", 100, 60)}
}

// wishes are the requests of the chapter's examples.
func wishes() []mend.Request {
	return []mend.Request{request(1, 120, 1, 1, "has paid"), request(1, 110, 2, 1, "12"), request(2, 130, 2, 1, "10"), request(2, 161, 3, 1, "no"), request(2, 160, 3, 1, "not")}
}

// six is a report of six words of the member 1.
func six() world {
	return world{example(), nil, report("a1 b1 c1 d1 e1 f1", 100, 60)}
}

// holdOne holds that Decide gives this answer to a request alone.
func holdOne(t *testing.T, w world, q mend.Request, want api.Errno) {
	t.Helper()
	if answers, e := mend.Decide(w.l, w.swaps, w.r, []mend.Request{q}); !slices.Equal(answers, []api.Errno{want}) || e != api.OK {
		t.Errorf("Decide of %v, %v: %v, %v; not %v", w.r, q, answers, e, want)
	}
}

// P4.3: the examples of the chapter.
func TestP4_3DecideExamples(t *testing.T) {
	if answers := compare(t, sentence(), wishes()); !slices.Equal(answers, []api.Errno{api.OK, api.OK, api.ErrName, api.ErrLate, api.ErrFail}) {
		t.Errorf("Decide: %v", answers)
	}
	if answers := compare(t, six(), nil); len(answers) != 0 {
		t.Errorf("Decide of nothing: %v", answers)
	}
	w := sentence()
	w.swaps = nil
	holdOne(t, w, wishes()[1], api.ErrFail)
	// Example 4 of the document.
	holdOne(t, w, request(1, 100, 0, 1, "Smyth"), api.OK)
	holdOne(t, w, request(1, 100, 0, 1, "Jones"), api.ErrFail)
}

// P4.3: words that there are not.
func TestP4_3DecideRange(t *testing.T) {
	for _, x := range [][2]int{
		{-1, 1}, {-1, 0}, {0, -1}, {1, -1}, {6, 1}, {7, 0}, {5, 2}, {0, 7}, {4, 3}, {-1, 2}, {-3, 7}, {7, -1}, {6, -1}, {8, -2},
		{math.MinInt, 1}, {math.MaxInt, 1}, {1, math.MinInt}, {1, math.MaxInt}, {math.MaxInt, math.MaxInt}, {math.MinInt, math.MinInt}, {math.MaxInt, math.MinInt}, {math.MinInt, math.MaxInt}, {math.MaxInt, 0}, {0, math.MaxInt}, {0, math.MinInt}, {math.MaxInt, -1}, {-1, math.MaxInt}, {-1, math.MinInt},
	} {
		holdOne(t, six(), request(1, 100, x[0], x[1], "x"), api.ErrRange)
		holdOne(t, six(), mend.Request{By: -1, Minute: -1, From: x[0], Cut: x[1], Put: make([]string, 1000)}, api.ErrRange)
	}
	for _, x := range [][2]int{{0, 1}, {5, 1}, {0, 6}, {6, 0}, {0, 0}, {3, 3}} {
		holdOne(t, six(), request(1, 100, x[0], x[1], "x"), api.OK)
	}
	empty := world{r: report("", 100, 60)}
	holdOne(t, empty, request(1, 100, 0, 1, "x"), api.ErrRange)
	holdOne(t, empty, request(1, 100, 1, 0, "x"), api.ErrRange)
}

// P4.3: what no request may be.
func TestP4_3DecideArg(t *testing.T) {
	long := world{example(), nil, mend.Report{Words: slices.Repeat(said("a1"), api.MaxReport), Out: 100, Within: 60}}
	eight := strings.Repeat("x ", api.MaxPhrase)
	for _, q := range []mend.Request{request(1, 100, 0, 8, eight), request(1, 100, 72, 8, ""), request(1, 100, 80, 0, eight), request(1, 100, 3, 0, "x"), request(1, 100, 3, 1, ""), request(1, 100, 3, 0, "! "+strings.Repeat("~", api.MaxWord))} {
		holdOne(t, long, q, api.OK)
	}
	for _, q := range []mend.Request{
		request(1, 100, 0, 9, "x"), request(1, 100, 0, 80, "x"), request(1, 100, 71, 9, "x"), request(1, 100, 0, 9, ""), request(1, 100, 0, 1, eight+"x"), request(1, 100, 0, 0, eight+"x"), {By: 1, Minute: 100, Cut: 1, Put: slices.Repeat(words("x"), 1000)},
		request(1, 100, 0, 0, ""), request(1, 100, 80, 0, ""), {By: 1, Minute: 100, From: 3, Put: []string{}},
		request(-1, 100, 0, 1, "x"), request(api.MaxMember+1, 100, 0, 1, "x"), request(math.MinInt, 100, 0, 1, "x"), request(math.MaxInt, 100, 0, 1, "x"),
		request(-1, 100, 0, 0, "x"), request(-1, 100, 0, 1, ""),
	} {
		holdOne(t, long, q, api.ErrArg)
		q.Minute, q.Put = -1, append(q.Put, "not")
		if q.Cut > 0 || len(q.Put) > 1 {
			holdOne(t, long, q, api.ErrArg)
		}
	}
	for _, text := range noTexts() {
		holdOne(t, long, mend.Request{By: 1, Minute: 100, Cut: 1, Put: []string{text}}, api.ErrArg)
		holdOne(t, long, mend.Request{By: 2, Minute: 99, Put: []string{"not", "x", text}}, api.ErrArg)
	}
	last := world{r: mend.Report{Words: []mend.Said{{Text: "a", Speaker: api.MaxMember}}}}
	holdOne(t, last, request(api.MaxMember, 0, 0, 1, "x"), api.OK)
	last.r.Words[0].Speaker = 0
	holdOne(t, last, request(0, 0, 0, 1, "x"), api.OK)
}

// P4.3: whose words they are.
func TestP4_3DecideName(t *testing.T) {
	w := world{example(), nil, report("a1 b1 c2 d1 e3", 100, 60)}
	for _, x := range []struct {
		from, cut int
		by        string // the members who may
	}{
		{0, 1, "1"}, {0, 2, "1"}, {0, 3, ""}, {1, 1, "1"}, {1, 2, ""}, {1, 3, ""}, {2, 1, "2"}, {2, 2, ""}, {3, 1, "1"}, {3, 2, ""}, {4, 1, "3"}, {0, 5, ""}, {2, 3, ""},
		// Between two words it may be the member of either of them.
		{0, 0, "1"}, {1, 0, "1"}, {2, 0, "12"}, {3, 0, "12"}, {4, 0, "13"}, {5, 0, "3"},
	} {
		for by := range 5 {
			want := api.ErrName
			if strings.Contains(x.by, strconv.Itoa(by)) {
				want = api.OK
			}
			holdOne(t, w, request(by, 100, x.from, x.cut, "x"), want)
			if want == api.ErrName {
				holdOne(t, w, request(by, 99, x.from, x.cut, "not"), want)
			}
		}
	}
	// Where there is no word, it is nobody's; also not that of 0.
	for by := range 3 {
		holdOne(t, world{r: report("", 100, 60)}, request(by, 100, 0, 0, "x"), api.ErrName)
	}
	holdOne(t, six(), request(0, 100, 0, 0, "x"), api.ErrName)
	holdOne(t, six(), request(0, 100, 6, 0, "x"), api.ErrName)
}

// P4.3: when it comes.
func TestP4_3DecideLate(t *testing.T) {
	for _, x := range []struct{ out, within, first, last int }{{100, 60, 100, 160}, {0, 0, 0, 0}, {5, 0, 5, 5}, {0, 5, 0, 5}, {100000, 100000, 100000, 200000}, {100000, 0, 100000, 100000}} {
		w := six()
		w.r.Out, w.r.Within = x.out, x.within
		holdOne(t, w, request(1, x.first, 0, 1, "x"), api.OK)
		holdOne(t, w, request(1, x.last, 0, 1, "x"), api.OK)
		for _, minute := range []int{x.first - 1, x.last + 1, -1, x.last + 100001, math.MinInt, math.MaxInt} {
			holdOne(t, w, request(1, minute, 0, 1, "x"), api.ErrLate)
			holdOne(t, w, request(1, minute, 0, 1, "not"), api.ErrLate)
		}
	}
}

// P4.3: what it means.
func TestP4_3DecideFail(t *testing.T) {
	w := world{example(), []mend.Swap{swapNumber(10, 12), swapNumber(12, 14), swapName(1, 0)}, report("not1 ten1 Smith1 a1 Jones1 12\x31", 100, 60)}
	for _, x := range []struct {
		from, cut int
		put       string
		want      api.Errno
	}{
		{0, 1, "never", api.OK}, {0, 1, "did not b", api.OK}, {0, 1, "", api.ErrFail}, {0, 1, "not not", api.ErrFail}, {0, 1, "a", api.ErrFail}, {0, 1, "0", api.ErrFail}, {0, 1, "Smith", api.ErrFail},
		{1, 1, "10", api.OK}, {1, 1, "12", api.OK}, {1, 1, "14", api.ErrFail}, {1, 1, "11", api.ErrFail}, {1, 1, "ten ten", api.ErrFail}, {1, 1, "012", api.ErrFail}, {1, 1, "a 12 b", api.OK},
		{5, 1, "14", api.OK}, {5, 1, "10", api.ErrFail}, {5, 1, "12", api.OK}, {5, 1, "ten", api.ErrFail},
		{2, 1, "Smyth", api.OK}, {2, 1, "Jones", api.ErrFail}, {4, 1, "Smith", api.OK}, {4, 1, "Smyth", api.OK}, {4, 1, "Jones", api.OK}, {4, 1, "0", api.ErrFail},
		// The row is in order, and complete.
		{0, 2, "never 12", api.OK}, {0, 2, "12 never", api.ErrFail}, {0, 2, "never", api.ErrFail}, {0, 3, "a never b 12 c Smyth", api.OK}, {0, 6, "not 10 Smith Smith 14", api.OK}, {0, 6, "not 10 Smith Smith 10", api.ErrFail},
		// What has no mark.
		{3, 1, "b", api.OK}, {3, 1, "", api.OK}, {3, 1, "b c d", api.OK}, {3, 1, "not", api.ErrFail}, {3, 1, "1", api.ErrFail}, {3, 1, "01", api.OK}, {3, 0, "b", api.OK}, {3, 0, "Smith", api.ErrFail}, {0, 0, "not", api.ErrFail}, {6, 0, "not", api.ErrFail}, {6, 0, "Not", api.OK},
	} {
		holdOne(t, w, request(1, 100, x.from, x.cut, x.put), x.want)
	}
}

// P4.3: which requests meet: all pairs and triples of places in a report.
func TestP4_3DecideTwice(t *testing.T) {
	w := world{example(), nil, report("a1 b1 c1 d1", 100, 60)}
	var places [][2]int
	for from := range 5 {
		for cut := range 5 - from {
			places = append(places, [2]int{from, cut})
		}
	}
	at := func(minute int, place [2]int) mend.Request { return request(1, minute, place[0], place[1], "x") }
	count := map[api.Errno]int{}
	for _, a := range places {
		for _, b := range places {
			compare(t, w, []mend.Request{at(101, a), at(100, b)})
			for _, c := range places {
				answers := compare(t, w, []mend.Request{at(100, a), at(102, b), at(101, c)})
				for _, e := range answers {
					count[e]++
				}
			}
		}
	}
	if count[api.OK] < 5000 || count[api.ErrTwice] < 3000 {
		t.Errorf("%d accepted, %d refused", count[api.OK], count[api.ErrTwice])
	}
	for _, x := range []struct {
		a, b [2]int
		want api.Errno
	}{
		// One and the same word.
		{[2]int{1, 2}, [2]int{1, 2}, api.ErrTwice}, {[2]int{0, 2}, [2]int{1, 2}, api.ErrTwice}, {[2]int{1, 2}, [2]int{0, 2}, api.ErrTwice}, {[2]int{0, 4}, [2]int{2, 1}, api.ErrTwice}, {[2]int{2, 1}, [2]int{0, 4}, api.ErrTwice},
		// Side by side.
		{[2]int{0, 2}, [2]int{2, 2}, api.OK}, {[2]int{2, 2}, [2]int{0, 2}, api.OK},
		// Inside, and at the ends.
		{[2]int{1, 2}, [2]int{2, 0}, api.ErrTwice}, {[2]int{2, 0}, [2]int{1, 2}, api.ErrTwice}, {[2]int{1, 2}, [2]int{1, 0}, api.OK}, {[2]int{1, 2}, [2]int{3, 0}, api.OK}, {[2]int{1, 0}, [2]int{1, 2}, api.OK}, {[2]int{3, 0}, [2]int{1, 2}, api.OK}, {[2]int{1, 1}, [2]int{1, 0}, api.OK},
		// At one place, and at two.
		{[2]int{2, 0}, [2]int{2, 0}, api.ErrTwice}, {[2]int{2, 0}, [2]int{3, 0}, api.OK}, {[2]int{0, 0}, [2]int{0, 0}, api.ErrTwice}, {[2]int{4, 0}, [2]int{4, 0}, api.ErrTwice},
	} {
		answers, e := mend.Decide(w.l, w.swaps, w.r, []mend.Request{at(100, x.a), at(101, x.b)})
		if !slices.Equal(answers, []api.Errno{api.OK, x.want}) || e != api.OK {
			t.Errorf("Decide of %v and %v: %v, %v", x.a, x.b, answers, e)
		}
	}
	// One that is refused keeps no place.
	if answers := compare(t, w, []mend.Request{at(99, places[1]), request(1, 100, 0, 2, "not"), at(101, [2]int{0, 3}), at(102, [2]int{2, 2}), at(103, [2]int{3, 1})}); !slices.Equal(answers, []api.Errno{api.ErrLate, api.ErrFail, api.OK, api.ErrTwice, api.OK}) {
		t.Errorf("Decide: %v", answers)
	}
}

// P4.3: in which order they are taken; all are for what stands between the same
// words, so that just the first one is accepted.
func TestP4_3DecideOrder(t *testing.T) {
	w := world{example(), nil, report("a1 b2", 100, 60)}
	for _, x := range []struct {
		taken []mend.Request
		first int
	}{
		{[]mend.Request{request(1, 101, 1, 0, "x"), request(1, 100, 1, 0, "y")}, 1},
		{[]mend.Request{request(2, 100, 1, 0, "x"), request(1, 100, 1, 0, "y")}, 1},
		{[]mend.Request{request(1, 101, 1, 0, "x"), request(2, 100, 1, 0, "y")}, 1},
		{[]mend.Request{request(2, 100, 1, 0, "x"), request(1, 101, 1, 0, "y")}, 0},
		{[]mend.Request{request(1, 100, 1, 0, "x"), request(1, 100, 1, 0, "x")}, 0},
		{[]mend.Request{request(1, 100, 1, 0, "x"), request(2, 100, 1, 0, "y"), request(1, 100, 1, 0, "z")}, 0},
		{[]mend.Request{request(2, 100, 1, 0, "x"), request(1, 101, 1, 0, "y"), request(1, 100, 1, 0, "z"), request(1, 100, 1, 0, "a")}, 2},
		{[]mend.Request{request(2, 160, 1, 0, "x"), request(1, 160, 1, 0, "y"), request(2, 159, 1, 0, "z")}, 2},
	} {
		want := slices.Repeat([]api.Errno{api.ErrTwice}, len(x.taken))
		want[x.first] = api.OK
		if answers := compare(t, w, x.taken); !slices.Equal(answers, want) {
			t.Errorf("Decide of %v: %v", x.taken, answers)
		}
	}
	// One that no member can make does not part the others.
	w.r.Words[0].Speaker = 0
	if answers := compare(t, w, []mend.Request{request(2, 100, 1, 0, "x"), request(math.MinInt+1, 100, 1, 0, "x"), request(0, 100, 1, 0, "x")}); !slices.Equal(answers, []api.Errno{api.ErrTwice, api.ErrArg, api.OK}) {
		t.Errorf("Decide: %v", answers)
	}
	w.r.Words[0].Speaker = 1
	// Many of one minute and member, among others whose minutes are far away.
	many := []mend.Request{request(1, math.MaxInt, 1, 0, "x"), request(1, math.MinInt, 1, 0, "x"), request(1, -1, 1, 0, "x"), request(math.MinInt, 100, 1, 0, "x"), request(math.MaxInt, 100, 1, 0, "x")}
	many = append(slices.Repeat([]mend.Request{request(2, 120, 1, 0, "x")}, 13), many...)
	many = append(many, request(1, 120, 1, 0, "x"))
	if answers := compare(t, w, many); answers[18] != api.OK || answers[13] != api.ErrLate || answers[14] != api.ErrLate || answers[16] != api.ErrArg || answers[0] != api.ErrTwice {
		t.Errorf("Decide: %v", answers)
	}
	if answers := compare(t, w, many[:18]); answers[0] != api.OK || answers[1] != api.ErrTwice || answers[12] != api.ErrTwice {
		t.Errorf("Decide: %v", answers)
	}
}

// P4.3: of all errors that apply, the first one.
func TestP4_3DecideFirstError(t *testing.T) {
	w := world{example(), nil, report("a1 b1 c1 d1 e2", 100, 60)}
	faults := []struct {
		e  api.Errno
		do func(q *mend.Request)
	}{
		{api.ErrRange, func(q *mend.Request) { q.From = -1 }},
		{api.ErrArg, func(q *mend.Request) { q.Put = append(q.Put, "") }},
		{api.ErrName, func(q *mend.Request) { q.By = 2 }},
		{api.ErrLate, func(q *mend.Request) { q.Minute = 161 }},
		{api.ErrFail, func(q *mend.Request) { q.Put = append(q.Put, "7") }},
		{api.ErrTwice, func(q *mend.Request) { q.From = min(q.From, 1) }},
	}
	before := request(1, 100, 0, 2, "x y")
	for set := range 1 << len(faults) {
		q, want := request(1, 160, 2, 2, "z"), api.OK
		for i, f := range slices.Backward(faults) {
			if set>>i&1 == 1 {
				f.do(&q)
				want = f.e
			}
		}
		if answers := compare(t, w, []mend.Request{q, before}); !slices.Equal(answers, []api.Errno{want, api.OK}) {
			t.Errorf("Decide of %v: %v; not %v", q, answers, want)
		}
	}
}

// P4.3, P4.4: what is refused altogether, in the order of the table of errors.
func TestP4_3P4_4Refused(t *testing.T) {
	refused := func(w world, requests []mend.Request, want api.Errno) {
		t.Helper()
		if answers, e := mend.Decide(w.l, w.swaps, w.r, requests); len(answers) != 0 || e != want {
			t.Errorf("Decide of %v, %v: %v, %v; not %v", w, requests, answers, e, want)
		}
		if versions, e := mend.Versions(w.l, w.swaps, w.r, requests); len(versions) != 0 || e != want {
			t.Errorf("Versions of %v, %v: %v, %v; not %v", w, requests, versions, e, want)
		}
	}
	faults := []struct {
		e  api.Errno
		do func(w *world, requests *[]mend.Request)
	}{
		{api.ErrArg, func(w *world, _ *[]mend.Request) { w.l.Nots = append(w.l.Nots, "") }},
		{api.ErrTwice, func(w *world, _ *[]mend.Request) { w.l.Nots = append(w.l.Nots, "ten") }},
		{api.ErrLimit, func(w *world, _ *[]mend.Request) { w.swaps = append(w.swaps, slices.Repeat(tenTo12(), 20)...) }},
		{api.ErrArg, func(w *world, _ *[]mend.Request) { w.swaps = append(w.swaps, mend.Swap{Kind: mend.KindNot}) }},
		{api.ErrArg, func(w *world, _ *[]mend.Request) { w.r.Out = -1 }},
		{api.ErrLimit, func(_ *world, requests *[]mend.Request) { *requests = make([]mend.Request, api.MaxRequests+1) }},
	}
	for set := 1; set < 1<<len(faults); set++ {
		w, requests, want := sentence(), wishes(), api.OK
		for i, f := range slices.Backward(faults) {
			if set>>i&1 == 1 {
				f.do(&w, &requests)
				want = f.e
			}
		}
		refused(w, requests, want)
	}
	for _, l := range wrongLexicons() {
		refused(world{l: l}, nil, api.ErrArg)
	}
	for _, l := range twofold() {
		refused(world{l: l}, nil, api.ErrTwice)
	}
	for _, s := range wrongSwaps() {
		refused(world{swaps: []mend.Swap{s}}, nil, api.ErrArg)
	}
	for _, r := range wrongReports() {
		refused(world{r: r}, nil, api.ErrArg)
		refused(world{r: r}, make([]mend.Request, 1000), api.ErrArg)
	}
	refused(sentence(), make([]mend.Request, 1000), api.ErrLimit)
	w := sentence()
	w.swaps = slices.Repeat(tenTo12(), api.MaxSwaps)
	compare(t, w, slices.Repeat(wishes(), api.MaxRequests/5))
}

// P4.4
func TestP4_4Versions(t *testing.T) {
	two := world{example(), nil, report("a1 b1 c1 d2 e2 f2", 100, 60)}
	for _, x := range []struct {
		w        world
		requests []mend.Request
		want     string // old > new = request, with a comma between two segments
	}{
		// The example of the chapter.
		{sentence(), wishes(), "Smith > Smith = -1, paid > has paid = 0, ten > 12 = 1, yes > yes = -1"},
		{two, nil, "a b c d e f > a b c d e f = -1"},
		{world{}, nil, ""},
		// At both ends, and all of it.
		{two, []mend.Request{request(1, 100, 0, 1, "x")}, "a > x = 0, b c d e f > b c d e f = -1"},
		{two, []mend.Request{request(2, 100, 5, 1, "x y")}, "a b c d e > a b c d e = -1, f > x y = 0"},
		{six(), []mend.Request{request(1, 100, 0, 6, "x")}, "a b c d e f > x = 0"},
		{six(), []mend.Request{request(1, 100, 0, 6, "")}, "a b c d e f > = 0"},
		// What is put between words.
		{two, []mend.Request{request(1, 100, 0, 0, "x")}, "> x = 0, a b c d e f > a b c d e f = -1"},
		{two, []mend.Request{request(2, 100, 6, 0, "x y")}, "a b c d e f > a b c d e f = -1, > x y = 0"},
		{two, []mend.Request{request(2, 100, 3, 0, "x")}, "a b c > a b c = -1, > x = 0, d e f > d e f = -1"},
		// Ahead of what begins there, behind what ends there.
		{two, []mend.Request{request(1, 100, 1, 2, "x"), request(1, 101, 1, 0, "y"), request(1, 102, 3, 0, "z"), request(2, 103, 3, 1, "")}, "a > a = -1, > y = 1, b c > x = 0, > z = 2, d > = 3, e f > e f = -1"},
		// Side by side, from the last one of the list to the first one.
		{two, []mend.Request{request(2, 100, 4, 2, "x"), request(2, 100, 3, 1, "y"), request(1, 100, 0, 3, "z")}, "a b c > z = 2, d > y = 1, e f > x = 0"},
		// What puts what stood there is a segment too.
		{two, []mend.Request{request(1, 100, 1, 1, "b")}, "a > a = -1, b > b = 0, c d e f > c d e f = -1"},
		// What is refused is none.
		{two, []mend.Request{request(2, 100, 1, 1, "x"), request(1, 161, 1, 1, "x"), request(1, 100, 1, 1, "not"), request(1, 101, 2, 1, "x"), request(1, 102, 1, 2, "x"), request(1, 100, -1, 1, "x"), request(1, 100, 1, 0, "")}, "a b > a b = -1, c > x = 3, d e f > d e f = -1"},
	} {
		compare(t, x.w, x.requests)
		versions, _ := mend.Versions(x.w.l, x.w.swaps, x.w.r, x.requests)
		var l []string
		for _, s := range versions {
			l = append(l, strings.Join(slices.Concat(s.Old, []string{">"}, s.New, []string{"=", strconv.Itoa(s.Request)}), " "))
		}
		if got := strings.Join(l, ", "); got != x.want {
			t.Errorf("Versions of %v: %s; not %s", x.requests, got, x.want)
		}
	}
}

// P4.3, P4.4: many requests for reports that are thrown.
func TestP4_3P4_4Many(t *testing.T) {
	d := dice(3)
	count := map[api.Errno]int{}
	for range 8000 {
		w := d.world(12)
		for _, e := range compare(t, w, d.requests(w, 12)) {
			count[e]++
		}
	}
	for _, e := range []api.Errno{api.OK, api.ErrRange, api.ErrArg, api.ErrName, api.ErrLate, api.ErrFail, api.ErrTwice} {
		if count[e] < 700 {
			t.Errorf("%v is the answer to %d requests", e, count[e])
		}
	}
}

// P4.3, P4.4: as much as there may be of all things.
func TestP4_3P4_4Large(t *testing.T) {
	d := dice(4)
	count := map[api.Errno]int{}
	for range 300 {
		w := d.world(0)
		w.r = mend.Report{Out: 0, Within: 20}
		for len(w.r.Words) < api.MaxReport {
			w.r.Words = append(w.r.Words, mend.Said{Text: d.text(), Speaker: d.roll(1, 30) / 30})
		}
		var requests []mend.Request
		for len(requests) < api.MaxRequests {
			requests = append(requests, d.request(w))
		}
		for _, e := range compare(t, w, requests) {
			count[e]++
		}
	}
	if count[api.OK] < 1500 || count[api.ErrTwice] < 200 || count[api.ErrFail] < 300 {
		t.Errorf("%v", count)
	}
}
