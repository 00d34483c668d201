package paper_test

import (
	"slices"
	"strings"

	"palantype/api"
	"palantype/paper"
)

// This file says again what the chapter defines, as literally and slowly as
// can be; the tests hold the package against it.

// dice is a row of numbers that look thrown, and are the same in each run.
type dice uint64

// roll returns a number from lo to hi.
func (d *dice) roll(lo, hi int) int {
	*d = *d*6364136223846793005 + 1442695040888963407
	return lo + int(uint64(*d)>>33)%(hi-lo+1)
}

// one reports whether it is one time in so many.
func (d *dice) one(many int) bool { return d.roll(1, many) == 1 }

// mix deals out the elements of the list.
func mix[T any](d *dice, l []T) {
	for i := range l {
		k := d.roll(0, i)
		l[i], l[k] = l[k], l[i]
	}
}

func words(s string) []string { return strings.Fields(s) }

func amends(number, of, from, to int, s string) paper.Paper {
	return paper.Paper{Number: number, Of: of, From: from, To: to, Words: words(s)}
}

func motion(s string, papers ...paper.Paper) paper.Motion {
	return paper.Motion{Words: words(s), Papers: papers}
}

func question(number, asked, within int) paper.Question {
	return paper.Question{Number: number, Asked: asked, Within: within}
}

func reply(to, day int) paper.Reply { return paper.Reply{To: to, Day: day} }

// origins returns those with these Numbers and Indices, one after the other.
func origins(numbers ...int) []paper.Origin {
	var l []paper.Origin
	for i := 0; i < len(numbers); i += 2 {
		l = append(l, paper.Origin{Number: numbers[i], Index: numbers[i+1]})
	}
	return l
}

// house is the motion of the chapter's examples.
func house() paper.Motion {
	return motion("this House notes the report", amends(3, 0, 2, 3, "welcomes with regret"), amends(5, 3, 2, 3, "joy"), amends(8, 0, 4, 5, "second report"), amends(9, 0, 3, 5, "it"), amends(2, 0, 4, 4, "long"))
}

// find returns the paper with the Number, and whether there is one.
func find(m paper.Motion, number int) (paper.Paper, bool) {
	for _, p := range m.Papers {
		if p.Number == number {
			return p, true
		}
	}
	return paper.Paper{}, false
}

// wordsOf returns the Words of the paper with the Number, or of the motion, if
// it is 0.
func wordsOf(m paper.Motion, number int) []string {
	if number == 0 {
		return m.Words
	}
	p, _ := find(m, number)
	return p.Words
}

func isWord(s string) bool {
	if len(s) < 1 || len(s) > api.MaxWordBytes {
		return false
	}
	for i := range len(s) {
		if s[i] < 33 || s[i] > 126 {
			return false
		}
	}
	return true
}

// circle says whether whoever goes from the paper to what it amends, and on,
// comes to a paper again.
func circle(m paper.Motion, p paper.Paper) bool {
	var seen []int
	for !slices.Contains(seen, p.Number) {
		if p.Of == 0 {
			return false
		}
		seen = append(seen, p.Number)
		p, _ = find(m, p.Of)
	}
	return true
}

// faultOf says which error a motion has.
func faultOf(m paper.Motion) api.Errno {
	lists := [][]string{m.Words}
	for _, p := range m.Papers {
		lists = append(lists, p.Words)
	}
	some := func(is func(p paper.Paper) bool) bool { return slices.ContainsFunc(m.Papers, is) }
	switch {
	case len(m.Papers) > api.MaxPapers || slices.ContainsFunc(lists, func(l []string) bool { return len(l) > api.MaxListed }):
		return api.ErrLimit
	case slices.ContainsFunc(slices.Concat(lists...), func(s string) bool { return !isWord(s) }):
		return api.ErrForm
	case some(func(p paper.Paper) bool { return p.Number < 1 || p.Number > api.MaxPaper }):
		return api.ErrRange
	}
	for i, p := range m.Papers {
		for _, q := range m.Papers[:i] {
			if p.Number == q.Number {
				return api.ErrTwice
			}
		}
	}
	switch {
	case some(func(p paper.Paper) bool { _, found := find(m, p.Of); return p.Of != 0 && !found }):
		return api.ErrNone
	case some(func(p paper.Paper) bool { return circle(m, p) }):
		return api.ErrState
	case some(func(p paper.Paper) bool { return p.From < 0 || p.From > p.To || p.To > len(wordsOf(m, p.Of)) }):
		return api.ErrArg
	}
	return api.OK
}

// clash says whether two papers clash.
func clash(a, b paper.Paper) bool {
	return a.Of == b.Of && a.From < b.To && b.From < a.To
}

// chosen returns the papers that are chosen.
func chosen(m paper.Motion, choice []int) []paper.Paper {
	var l []paper.Paper
	for _, number := range choice {
		if p, found := find(m, number); found {
			l = append(l, p)
		}
	}
	return l
}

// faultOfChoice says why these are not a choice of a valid motion.
func faultOfChoice(m paper.Motion, choice []int) api.Errno {
	for i, number := range choice {
		if _, found := find(m, number); !found || i > 0 && choice[i-1] >= number {
			return api.ErrRange
		}
	}
	papers := chosen(m, choice)
	for _, p := range papers {
		if p.Of != 0 && !slices.Contains(choice, p.Of) {
			return api.ErrGap
		}
	}
	for i, p := range papers {
		for _, q := range papers[:i] {
			if clash(p, q) {
				return api.ErrFail
			}
		}
	}
	return api.OK
}

// inOrder returns the papers that amend what has the Number, in their order.
func inOrder(papers []paper.Paper, of int) []paper.Paper {
	var l []paper.Paper
	for _, p := range papers {
		if p.Of == of {
			l = append(l, p)
		}
	}
	slices.SortFunc(l, func(a, b paper.Paper) int {
		if a.From != b.From {
			return a.From - b.From
		}
		if a.To != b.To {
			return a.To - b.To
		}
		return a.Number - b.Number
	})
	return l
}

// textOf returns the text, by a choice, of what has the Number: place by place,
// what is put there, and then the word behind it, if that is not replaced.
func textOf(m paper.Motion, choice []int, number int) ([]string, []paper.Origin) {
	var w []string
	var o []paper.Origin
	own := wordsOf(m, number)
	for place := range len(own) + 1 {
		replaced := false
		for _, p := range inOrder(chosen(m, choice), number) {
			if p.From == place {
				a, b := textOf(m, choice, p.Number)
				w, o = append(w, a...), append(o, b...)
			}
			replaced = replaced || p.From <= place && place < p.To
		}
		if place < len(own) && !replaced {
			w, o = append(w, own[place]), append(o, paper.Origin{Number: number, Index: place})
		}
	}
	return w, o
}

// pairsOf returns the pairs of papers that clash.
func pairsOf(m paper.Motion) []paper.Pair {
	var l []paper.Pair
	for a := range api.MaxPaper + 1 {
		p, found := find(m, a)
		for b := a + 1; found && b <= api.MaxPaper; b++ {
			if q, found := find(m, b); found && clash(p, q) {
				l = append(l, paper.Pair{A: a, B: b})
			}
		}
	}
	return l
}

// orderOf returns the order of call of what amends that with the Number.
func orderOf(m paper.Motion, number int) []int {
	var l []int
	for _, p := range inOrder(m.Papers, number) {
		l = append(l, orderOf(m, p.Number)...)
		l = append(l, p.Number)
	}
	return l
}

// numbersOf returns the Numbers of the papers, rising.
func numbersOf(m paper.Motion) []int {
	var l []int
	for _, p := range m.Papers {
		l = append(l, p.Number)
	}
	slices.Sort(l)
	return l
}

// allSets returns all lists of Numbers of papers that rise.
func allSets(m paper.Motion) [][]int {
	lists := [][]int{nil}
	for _, number := range numbersOf(m) {
		for _, l := range lists {
			lists = append(lists, append(slices.Clip(l), number))
		}
	}
	return lists
}

// allChoices returns all choices.
func allChoices(m paper.Motion) [][]int {
	return slices.DeleteFunc(allSets(m), func(l []int) bool { return faultOfChoice(m, l) != api.OK })
}

// largestOf returns the largest choice.
func largestOf(m paper.Motion) []int {
	var best []int
	for _, l := range allChoices(m) {
		if len(l) > len(best) || len(l) == len(best) && slices.Compare(l, best) < 0 {
			best = l
		}
	}
	return best
}

// faultOfQuestions says which error Standing has.
func faultOfQuestions(l []paper.Question, replies []paper.Reply, day int) api.Errno {
	isDay := func(n int) bool { return n >= 0 && n <= api.MaxDate }
	if len(l) > api.MaxQuestions || len(replies) > api.MaxReplies {
		return api.ErrLimit
	}
	for _, q := range l {
		if q.Number < 1 || q.Number > api.MaxPaper || !isDay(q.Asked) || !isDay(q.Within) {
			return api.ErrArg
		}
	}
	for _, r := range replies {
		if !isDay(r.Day) {
			return api.ErrArg
		}
	}
	for i, q := range l {
		for _, x := range l[:i] {
			if q.Number == x.Number {
				return api.ErrTwice
			}
		}
	}
	for _, r := range replies {
		if !slices.ContainsFunc(l, func(q paper.Question) bool { return q.Number == r.To }) {
			return api.ErrNone
		}
	}
	if !isDay(day) {
		return api.ErrRange
	}
	return api.OK
}

// stateOf says the state of a question on a day.
func stateOf(q paper.Question, replies []paper.Reply, day int) uint8 {
	var days []int // of replies that may be the answer
	for _, r := range replies {
		if r.To == q.Number && !(r.Day < q.Asked) {
			days = append(days, r.Day)
		}
	}
	slices.Sort(days)
	answered := len(days) > 0 && days[0] <= day
	switch {
	case day < q.Asked:
		return paper.Unasked
	case answered && days[0]-q.Asked <= q.Within:
		return paper.Answered
	case answered && days[0]-q.Asked > q.Within:
		return paper.Overdue
	case day-q.Asked <= q.Within:
		return paper.Open
	}
	return paper.Late
}

// statesOf says those of all questions.
func statesOf(l []paper.Question, replies []paper.Reply, day int) []uint8 {
	var states []uint8
	for _, q := range l {
		states = append(states, stateOf(q, replies, day))
	}
	return states
}

// texts throws so many words.
func (d *dice) texts(count int) []string {
	var l []string
	for range count {
		l = append(l, string(rune('a'+d.roll(0, 5))))
	}
	return l
}

// number throws a Number that the motion does not have.
func (d *dice) number(m paper.Motion, most int) int {
	for {
		number := d.roll(1, most)
		if _, found := find(m, number); !found {
			return number
		}
	}
}

// paper throws one that amends what the motion has.
func (d *dice) paper(m paper.Motion, most int) paper.Paper {
	of := 0
	if len(m.Papers) > 0 && d.one(2) {
		of = m.Papers[d.roll(0, len(m.Papers)-1)].Number
	}
	limit := len(wordsOf(m, of))
	from := d.roll(0, limit)
	to := d.roll(from, min(limit, from+2))
	return paper.Paper{Number: d.number(m, most), Of: of, From: from, To: to, Words: d.texts(d.roll(0, 3))}
}

// motion throws a valid one with at most so many papers.
func (d *dice) motion(papers int) paper.Motion {
	m := paper.Motion{Words: d.texts(d.roll(0, 7))}
	most := []int{20, api.MaxPaper}[d.roll(0, 1)]
	for range d.roll(0, papers) {
		m.Papers = append(m.Papers, d.paper(m, most))
	}
	mix(d, m.Papers)
	return m
}

// choice throws a choice of a valid motion.
func (d *dice) choice(m paper.Motion) []int {
	var choice []int
	for range d.roll(0, 3*len(m.Papers)) {
		number := m.Papers[d.roll(0, len(m.Papers)-1)].Number
		more := append(slices.Clip(choice), number)
		slices.Sort(more)
		if faultOfChoice(m, more) == api.OK {
			choice = more
		}
	}
	return choice
}

// questions throws some that are valid, with replies.
func (d *dice) questions(last int) ([]paper.Question, []paper.Reply) {
	var l []paper.Question
	var replies []paper.Reply
	for i := range d.roll(0, 5) {
		l = append(l, question(1+d.roll(0, 90)*10+i, d.roll(0, last), d.roll(0, last/2)))
	}
	for range d.roll(0, 2*len(l)) {
		replies = append(replies, reply(l[d.roll(0, len(l)-1)].Number, d.roll(0, last)))
	}
	return l, replies
}
