package paper_test

import (
	"math"
	"slices"
	"testing"

	"palantype/api"
	"palantype/paper"
)

// holdStanding holds that Standing returns these states.
func holdStanding(t *testing.T, l []paper.Question, replies []paper.Reply, day int, want ...uint8) {
	t.Helper()
	if states, e := paper.Standing(l, replies, day); !slices.Equal(states, want) || e != api.OK {
		t.Fatalf("Standing of %v with %v on %d: %v, %v, not %v", l, replies, day, states, e, want)
	}
}

// holdNoStanding holds that Standing returns the error.
func holdNoStanding(t *testing.T, l []paper.Question, replies []paper.Reply, day int, want api.Errno) {
	t.Helper()
	if states, e := paper.Standing(l, replies, day); len(states) != 0 || e != want {
		t.Fatalf("Standing of %v with %v on %d: %v, %v, not %v", l, replies, day, states, e, want)
	}
}

// asked returns the questions of the chapter's example, and replied its replies.
func asked() []paper.Question {
	return []paper.Question{question(1, 3, 5), question(2, 9, 5), question(4, 20, 1), question(6, 1, 4)}
}

func replied() []paper.Reply { return []paper.Reply{reply(1, 8), reply(6, 7)} }

// P6.5: the example of the chapter, and others.
func TestP6_5Standing(t *testing.T) {
	holdStanding(t, asked(), replied(), 12, paper.Answered, paper.Open, paper.Unasked, paper.Overdue)
	holdStanding(t, nil, nil, 0)
	if paper.Unasked != 0 || paper.Open != 1 || paper.Late != 2 || paper.Answered != 3 || paper.Overdue != 4 {
		t.Errorf("the states have other numbers")
	}
	one := []paper.Question{question(999, 10, 5)}
	for _, x := range []struct {
		replies []int // their days
		day     int
		want    uint8
	}{
		{nil, 0, paper.Unasked}, {nil, 9, paper.Unasked}, {nil, 10, paper.Open}, {nil, 15, paper.Open}, {nil, 16, paper.Late}, {nil, api.MaxDate, paper.Late},
		// An answer on the first day and the last one, and behind it.
		{[]int{10}, 9, paper.Unasked}, {[]int{10}, 10, paper.Answered}, {[]int{15}, 14, paper.Open}, {[]int{15}, 15, paper.Answered}, {[]int{15}, 99, paper.Answered}, {[]int{16}, 15, paper.Open}, {[]int{16}, 16, paper.Overdue}, {[]int{17}, 16, paper.Late}, {[]int{17}, 17, paper.Overdue}, {[]int{17}, 99, paper.Overdue},
		// Replies ahead of the question are no answers; of the others the first one is, also if it is not the first in the list.
		{[]int{9}, 12, paper.Open}, {[]int{9}, 16, paper.Late}, {[]int{0, 9, 17}, 17, paper.Overdue}, {[]int{9, 11}, 10, paper.Open}, {[]int{9, 11}, 11, paper.Answered}, {[]int{20, 12, 9}, 13, paper.Answered}, {[]int{20, 12, 9}, 30, paper.Answered}, {[]int{20, 18}, 19, paper.Overdue}, {[]int{20, 18}, 17, paper.Late}, {[]int{12, 12}, 12, paper.Answered},
		{[]int{api.MaxDate}, api.MaxDate, paper.Overdue}, {[]int{api.MaxDate}, api.MaxDate - 1, paper.Late},
	} {
		var replies []paper.Reply
		for _, day := range x.replies {
			replies = append(replies, reply(999, day))
		}
		holdStanding(t, one, replies, x.day, x.want)
	}
	// Within 0: on the same day, or too late.
	at := []paper.Question{question(1, 4, 0), question(2, 4, 0), question(3, 4, 0)}
	replies := []paper.Reply{reply(1, 4), reply(2, 5)}
	holdStanding(t, at, replies, 3, paper.Unasked, paper.Unasked, paper.Unasked)
	holdStanding(t, at, replies, 4, paper.Answered, paper.Open, paper.Open)
	holdStanding(t, at, replies, 5, paper.Answered, paper.Overdue, paper.Late)
	// The ends of all days.
	ends := []paper.Question{question(1, 0, 0), question(2, api.MaxDate, api.MaxDate), question(3, 0, api.MaxDate), question(4, api.MaxDate, 0)}
	holdStanding(t, ends, nil, 0, paper.Open, paper.Unasked, paper.Open, paper.Unasked)
	holdStanding(t, ends, nil, api.MaxDate, paper.Late, paper.Open, paper.Open, paper.Open)
	last := []paper.Reply{reply(1, api.MaxDate), reply(2, api.MaxDate), reply(3, api.MaxDate), reply(4, api.MaxDate)}
	holdStanding(t, ends, last, api.MaxDate, paper.Overdue, paper.Answered, paper.Answered, paper.Answered)
}

// P6.5: what is refused, and the order of the errors.
func TestP6_5StandingRefused(t *testing.T) {
	var many []paper.Question
	var replies []paper.Reply
	for i := range api.MaxQuestions {
		many = append(many, question(i+1, i, i))
		replies = append(replies, reply(30-i, 29-i), reply(i+1, 99))
	}
	states := slices.Repeat([]uint8{paper.Answered}, 30)
	holdStanding(t, many, replies, api.MaxDate, states...)
	holdNoStanding(t, append(slices.Clone(many), question(31, 0, 0)), replies, 0, api.ErrLimit)
	holdNoStanding(t, many, append(slices.Clone(replies), reply(1, 1)), 0, api.ErrLimit)
	holdNoStanding(t, nil, make([]paper.Reply, 61), 0, api.ErrLimit)
	holdNoStanding(t, make([]paper.Question, 31), nil, 0, api.ErrLimit)
	for _, n := range []int{-1, api.MaxDate + 1, math.MinInt, math.MaxInt} {
		holdNoStanding(t, append(asked(), question(7, n, 0)), replied(), 0, api.ErrArg)
		holdNoStanding(t, append(asked(), question(7, 0, n)), replied(), 0, api.ErrArg)
		holdNoStanding(t, asked(), append(replied(), reply(1, n)), 0, api.ErrArg)
		holdNoStanding(t, asked(), replied(), n, api.ErrRange)
		holdNoStanding(t, nil, nil, n, api.ErrRange)
	}
	for _, n := range []int{0, -1, api.MaxPaper + 1, math.MinInt, math.MaxInt} {
		holdNoStanding(t, append(asked(), question(n, 0, 0)), replied(), 0, api.ErrArg)
		holdNoStanding(t, asked(), append(replied(), reply(n, 0)), 0, api.ErrNone)
	}
	for _, n := range []int{3, 5, 7, 999} {
		holdNoStanding(t, asked(), append(replied(), reply(n, 0)), 0, api.ErrNone)
	}
	holdNoStanding(t, nil, replied(), 0, api.ErrNone)
	for _, q := range asked() {
		holdNoStanding(t, append(asked(), q), replied(), 0, api.ErrTwice)
		holdNoStanding(t, append(asked(), question(q.Number, 0, 9)), replied(), 0, api.ErrTwice)
	}
	// Of two errors the first one.
	holdNoStanding(t, make([]paper.Question, 31), []paper.Reply{reply(-1, -1)}, -1, api.ErrLimit)
	holdNoStanding(t, []paper.Question{question(0, 0, 0)}, make([]paper.Reply, 61), -1, api.ErrLimit)
	holdNoStanding(t, append(asked(), asked()[0]), append(replied(), reply(1, -1)), -1, api.ErrArg)
	holdNoStanding(t, append(asked(), asked()[0], question(9, -1, 0)), replied(), -1, api.ErrArg)
	holdNoStanding(t, append(asked(), asked()[0]), append(replied(), reply(3, 1)), -1, api.ErrTwice)
	holdNoStanding(t, asked(), append(replied(), reply(3, -1)), -1, api.ErrArg)
	holdNoStanding(t, asked(), append(replied(), reply(3, 1)), -1, api.ErrNone)
}

// smallQuestions gives one question of each kind, with up to two replies, of
// which one may be to another question.
func smallQuestions(yield func([]paper.Question, []paper.Reply) bool) {
	for asked := range 4 {
		for within := range 3 {
			l := []paper.Question{question(5, asked, within), question(6, 2, 1)}
			for first := range 7 {
				for second := range 7 {
					for _, replies := range [][]paper.Reply{nil, {reply(5, first)}, {reply(5, first), reply(5, second)}, {reply(6, first), reply(5, second)}} {
						if !yield(l, replies) {
							return
						}
					}
				}
			}
		}
	}
}

// P6.5: all small questions, and larger ones.
func TestP6_5Questions(t *testing.T) {
	seen := [5]int{}
	for l, replies := range smallQuestions {
		for day := range 8 {
			want := statesOf(l, replies, day)
			holdStanding(t, l, replies, day, want...)
			seen[want[0]]++
		}
	}
	d := dice(5)
	for range 5000 {
		last := []int{10, 100, api.MaxDate}[d.roll(0, 2)]
		l, replies := d.questions(last)
		day := d.roll(0, last)
		want := statesOf(l, replies, day)
		holdStanding(t, l, replies, day, want...)
		for _, state := range want {
			seen[state]++
		}
	}
	if slices.Min(seen[:]) < 500 {
		t.Errorf("%v", seen)
	}
}

// P6.12: from each day to the next one.
func TestP6_12NextDay(t *testing.T) {
	next := [5][]uint8{
		paper.Unasked:  {paper.Unasked, paper.Open, paper.Answered},
		paper.Open:     {paper.Open, paper.Late, paper.Answered, paper.Overdue},
		paper.Late:     {paper.Late, paper.Overdue},
		paper.Answered: {paper.Answered},
		paper.Overdue:  {paper.Overdue},
	}
	seen := map[[2]uint8]int{}
	hold := func(l []paper.Question, replies []paper.Reply, first, last int) {
		before, _ := paper.Standing(l, replies, first)
		for day := first + 1; day <= last; day++ {
			now, e := paper.Standing(l, replies, day)
			if e != api.OK || len(now) != len(l) || len(before) != len(l) {
				t.Fatalf("Standing of %v with %v on %d: %v, %v; the day before %v", l, replies, day, now, e, before)
			}
			for i, state := range now {
				if !slices.Contains(next[before[i]], state) {
					t.Fatalf("%v with %v: on %d from %d to %d", l[i], replies, day, before[i], state)
				}
				seen[[2]uint8{before[i], state}]++
			}
			before = now
		}
	}
	for l, replies := range smallQuestions {
		hold(l, replies, 0, 9)
	}
	d := dice(12)
	for range 300 {
		l, replies := d.questions(30)
		hold(l, replies, 0, 60)
	}
	hold([]paper.Question{question(1, api.MaxDate, 0), question(2, api.MaxDate-1, 0)}, []paper.Reply{reply(2, api.MaxDate)}, api.MaxDate-3, api.MaxDate)
	for before, states := range next {
		for _, state := range states {
			if seen[[2]uint8{uint8(before), state}] < 100 {
				t.Errorf("from %d to %d: %d times", before, state, seen[[2]uint8{uint8(before), state}])
			}
		}
	}
}

// P6.12: with one reply more.
func TestP6_12OneReplyMore(t *testing.T) {
	d := dice(122)
	answered, open, better := 0, 0, 0
	for range 8000 {
		l, replies := d.questions(20)
		if len(l) == 0 {
			continue
		}
		day := d.roll(0, 30)
		before, _ := paper.Standing(l, replies, day)
		more := slices.Insert(slices.Clone(replies), d.roll(0, len(replies)), reply(l[d.roll(0, len(l)-1)].Number, d.roll(0, 30)))
		now, e := paper.Standing(l, more, day)
		if e != api.OK || len(now) != len(l) || len(before) != len(l) {
			t.Fatalf("Standing of %v with %v on %d: %v, %v; before %v", l, more, day, now, e, before)
		}
		for i, state := range before {
			isOpen := now[i] == paper.Open || now[i] == paper.Late
			switch {
			case state == paper.Answered || state == paper.Overdue:
				if isOpen || state == paper.Answered && now[i] != paper.Answered {
					t.Fatalf("%v with %v on %d: from %d to %d", l[i], more, day, state, now[i])
				}
				answered++
			case state == paper.Unasked:
				if now[i] != paper.Unasked {
					t.Fatalf("%v with %v on %d: from %d to %d", l[i], more, day, state, now[i])
				}
			default:
				open++
				if !isOpen {
					better++
				}
			}
		}
	}
	if answered < 2000 || open < 2000 || better < 200 {
		t.Errorf("%d were answered; %d were not, of which %d now are", answered, open, better)
	}
}
