package tongue_test

import (
	"slices"

	"palantype/api"
	"palantype/tongue"
)

// This file says again what the chapter defines, as literally and slowly as
// can be; the tests hold the package against it.

// dice is a row of numbers that look thrown, and are the same in each run.
type dice uint64

// roll returns a number from lo to hi.
func (d *dice) roll(lo, hi int) int {
	*d = *d*6364136223846793005 + 1442695040888963407
	return lo + int(uint64(*d)>>33)%(hi-lo+1)
}

// one reports whether it is one time in so many.
func (d *dice) one(many int) bool { return d.roll(1, many) == 1 }

// text is a text of either language, and steps are a match or may be one.
type (
	text  = []tongue.Sentence
	steps = []tongue.Step
)

func says(size int, marks ...int) tongue.Sentence {
	return tongue.Sentence{Marks: marks, Size: size}
}

func step(left, right int) tongue.Step { return tongue.Step{Left: left, Right: right} }

func span(lo, hi int) tongue.Range { return tongue.Range{Lo: lo, Hi: hi} }

func left(index int) tongue.Piece { return tongue.Piece{Side: 0, Index: index} }

func right(index int) tongue.Piece { return tongue.Piece{Side: 1, Index: index} }

func term(mark int, left, right string) tongue.Term {
	return tongue.Term{Mark: mark, Left: left, Right: right}
}

// sides are the texts of the chapter's examples.
func sides() (l, r text) {
	return text{says(10, 4, 7), says(5, 9), says(8)}, text{says(6, 4), says(9, 7, 9), says(7)}
}

// kinds has the steps that there are, the least one first: it takes more from the
// left, and then more from the right.
func kinds() steps {
	return steps{step(2, 1), step(1, 2), step(1, 1), step(1, 0), step(0, 1)}
}

// compare says which of two lists of steps is less.
func compare(a, b steps) int {
	return slices.CompareFunc(a, b, func(s, o tongue.Step) int {
		if s.Left != o.Left {
			return o.Left - s.Left
		}
		return o.Right - s.Right
	})
}

// faultOf says which error two texts have.
func faultOf(texts ...text) api.Errno {
	for _, l := range texts {
		if len(l) > api.MaxSentences {
			return api.ErrLimit
		}
		for _, s := range l {
			if len(s.Marks) > api.MaxMarks {
				return api.ErrLimit
			}
		}
	}
	for _, l := range texts {
		for _, s := range l {
			if s.Size < 1 || s.Size > api.MaxSize {
				return api.ErrArg
			}
			for i, m := range s.Marks {
				if m < 0 || m > api.MaxMark || i > 0 && m <= s.Marks[i-1] {
					return api.ErrArg
				}
			}
		}
	}
	return api.OK
}

// marksOf returns the marks of sentences, each once.
func marksOf(l text) map[int]bool {
	marks := map[int]bool{}
	for _, s := range l {
		for _, m := range s.Marks {
			marks[m] = true
		}
	}
	return marks
}

// apart returns how many marks are in one side and not in the other one.
func apart(l, r text) int {
	count, lm, rm := 0, marksOf(l), marksOf(r)
	for m := range api.MaxMark + 1 {
		if lm[m] != rm[m] {
			count++
		}
	}
	return count
}

// sum returns the sum of Sizes.
func sum(l text) int {
	n := 0
	for _, s := range l {
		n += s.Size
	}
	return n
}

// priceOf returns what a step costs that takes these sentences.
func priceOf(l, r text) int {
	shared, lm, rm := 0, marksOf(l), marksOf(r)
	for m := range lm {
		if rm[m] {
			shared++
		}
	}
	cost := 2*(len(lm)-shared) + 2*(len(rm)-shared)
	if len(l) == 0 || len(r) == 0 {
		cost += 3
	}
	if len(l) == 2 || len(r) == 2 {
		cost++
	}
	return cost
}

// taken is what a step takes: from the left text, and from the right one, on.
type taken struct {
	from, until [2]int
	left, right text
}

// takenBy returns what steps take, and whether they are a match.
func takenBy(l, r text, list steps) ([]taken, bool) {
	var all []taken
	i, k := 0, 0
	for _, s := range list {
		if !slices.Contains(kinds(), s) || i+s.Left > len(l) || k+s.Right > len(r) {
			return nil, false
		}
		all = append(all, taken{[2]int{i, k}, [2]int{i + s.Left, k + s.Right}, l[i : i+s.Left], r[k : k+s.Right]})
		i, k = i+s.Left, k+s.Right
	}
	return all, i == len(l) && k == len(r)
}

// costOf returns what a match costs.
func costOf(l, r text, list steps) int {
	all, _ := takenBy(l, r, list)
	cost := 0
	for _, x := range all {
		cost += priceOf(x.left, x.right)
	}
	return cost
}

// matches returns all matches of so many sentences with so many.
func matches(l, r int) []steps {
	if l == 0 && r == 0 {
		return []steps{nil}
	}
	var all []steps
	for _, s := range kinds() {
		if s.Left <= l && s.Right <= r {
			for _, rest := range matches(l-s.Left, r-s.Right) {
				all = append(all, append(steps{s}, rest...))
			}
		}
	}
	return all
}

// bestOf returns the best match, and its cost, of all that there are.
func bestOf(l, r text, all []steps) (steps, int) {
	best, cost := steps(nil), -1
	for _, list := range all {
		c := costOf(l, r, list)
		if cost < 0 || c < cost || c == cost && compare(list, best) < 0 {
			best, cost = list, c
		}
	}
	return best, cost
}

// search looks for the best match of large texts: from each place on it keeps the
// best list of steps, of all that begin there.
type search struct {
	l, r text
	kept map[[2]int]steps
	cost map[[2]int]int
}

func searchOf(l, r text) search {
	return search{l, r, map[[2]int]steps{}, map[[2]int]int{}}
}

func (x search) from(i, k int) (steps, int) {
	at := [2]int{i, k}
	if list, found := x.kept[at]; found {
		return list, x.cost[at]
	}
	best, cost := steps(nil), -1
	for _, s := range kinds() {
		if i+s.Left > len(x.l) || k+s.Right > len(x.r) {
			continue
		}
		rest, c := x.from(i+s.Left, k+s.Right)
		c += priceOf(x.l[i:i+s.Left], x.r[k:k+s.Right])
		list := append(steps{s}, rest...)
		if cost < 0 || c < cost || c == cost && compare(list, best) < 0 {
			best, cost = list, c
		}
	}
	if i == len(x.l) && k == len(x.r) {
		cost = 0
	}
	x.kept[at], x.cost[at] = best, cost
	return best, cost
}

// proves says whether the table has the right numbers, and proves the cost. The
// texts are valid.
func proves(l, r text, cost int, t tongue.Table) bool {
	if len(t) != len(l)+1 {
		return false
	}
	for _, row := range t {
		if len(row) != len(r)+1 || slices.ContainsFunc(row, func(n int) bool { return n < 0 || n > 100000 }) {
			return false
		}
	}
	for i, row := range t {
		for k, n := range row {
			for _, s := range kinds() {
				if i >= s.Left && k >= s.Right && n > t[i-s.Left][k-s.Right]+priceOf(l[i-s.Left:i], r[k-s.Right:k]) {
					return false
				}
			}
		}
	}
	return t[0][0] == 0 && t[len(l)][len(r)] == cost
}

// differencesOf returns the steps of a match whose sides differ by their marks.
func differencesOf(l, r text, list steps) []int {
	var all []int
	taken, _ := takenBy(l, r, list)
	for i, x := range taken {
		if apart(x.left, x.right) > 0 {
			all = append(all, i)
		}
	}
	return all
}

// countingOf returns the report that counts.
func countingOf(l, r text, list steps, lead []bool) []tongue.Piece {
	var all []tongue.Piece
	taken, _ := takenBy(l, r, list)
	for _, x := range taken {
		side := 1
		switch {
		case len(x.left) == 0:
		case len(x.right) == 0, lead[x.from[0]]:
			side = 0
		}
		for i := x.from[side]; i < x.until[side]; i++ {
			all = append(all, tongue.Piece{Side: uint8(side), Index: i})
		}
	}
	return all
}

// page writes both columns, line by line: a sentence is its index as often as its
// Size says, and a blank line is -1.
func page(l, r text, list steps) (begins []int, columns [2][]int) {
	taken, _ := takenBy(l, r, list)
	for _, x := range taken {
		begins = append(begins, len(columns[0]))
		for side, sentences := range []text{x.left, x.right} {
			for i, s := range sentences {
				columns[side] = append(columns[side], slices.Repeat([]int{x.from[side] + i}, s.Size)...)
			}
		}
		for len(columns[0]) < len(columns[1]) {
			columns[0] = append(columns[0], -1)
		}
		for len(columns[1]) < len(columns[0]) {
			columns[1] = append(columns[1], -1)
		}
	}
	return begins, columns
}

// faultOfTerms says which error terms have.
func faultOfTerms(l []tongue.Term) api.Errno {
	if len(l) > api.MaxTerms {
		return api.ErrLimit
	}
	for _, t := range l {
		if t.Mark < 0 || t.Mark > api.MaxMark || t.Left == "" || len(t.Left) > 20 || t.Right == "" || len(t.Right) > 20 {
			return api.ErrArg
		}
	}
	for _, t := range l {
		for _, o := range l {
			if t.Mark == o.Mark && (t.Left != o.Left || t.Right != o.Right) || t.Left == o.Left && t.Mark != o.Mark || t.Right == o.Right && t.Mark != o.Mark {
				return api.ErrTwice
			}
		}
	}
	return api.OK
}

// faultOfSpeech says which error Behind returns.
func faultOfSpeech(s tongue.Speech, most int) api.Errno {
	bad := len(s.Starts) > api.MaxSentences || s.Lag < 1 || s.Lag > api.MaxLag || len(s.Needs) != len(s.Starts)
	for i, start := range s.Starts {
		bad = bad || start < 0 || start > api.MaxMoment || i > 0 && start <= s.Starts[i-1]
	}
	for _, r := range s.Needs {
		bad = bad || r.Lo < 1 || r.Hi > api.MaxLag || r.Lo > r.Hi
	}
	switch {
	case bad:
		return api.ErrArg
	case most < 0 || most > api.MaxMoment:
		return api.ErrRange
	}
	return api.OK
}

// interpret follows the interpreter, second by second, who needs so many of them
// for each sentence, and returns when it is done with each.
func interpret(starts []int, lag int, needs []int) []int {
	var done []int
	busy := 0 // so many seconds more
	for second := 0; len(done) < len(starts); second++ {
		if busy > 0 {
			busy--
			if busy == 0 {
				done = append(done, second)
			}
		}
		if at := len(done); busy == 0 && at < len(starts) && second >= starts[at]+lag {
			busy = needs[at]
		}
	}
	return done
}

// allNeeds gives all that may be needed for the sentences.
func allNeeds(l []tongue.Range) [][]int {
	rows := [][]int{{}}
	for _, r := range l {
		var longer [][]int
		for _, row := range rows {
			for n := r.Lo; n <= r.Hi; n++ {
				longer = append(longer, append(slices.Clone(row), n))
			}
		}
		rows = longer
	}
	return rows
}

// timesOf returns from when to when each sentence may be done.
func timesOf(s tongue.Speech) []tongue.Range {
	var times []tongue.Range
	for i, needs := range allNeeds(s.Needs) {
		for k, done := range interpret(s.Starts, s.Lag, needs) {
			if i == 0 {
				times = append(times, span(done, done))
			}
			times[k].Lo, times[k].Hi = min(times[k].Lo, done), max(times[k].Hi, done)
		}
	}
	return times
}

// keepsUp says whether the greatest of the times are soon enough.
func keepsUp(s tongue.Speech, times []tongue.Range, most int) bool {
	for i, r := range times {
		limit := s.Starts[i] + most
		if i+1 < len(s.Starts) {
			limit = s.Starts[i+1] + most
		}
		if r.Hi > limit {
			return false
		}
	}
	return true
}

// smallTexts returns all texts of at most so many sentences that have none, one
// or both of two marks.
func smallTexts(sentences int) []text {
	all, last := []text{nil}, []text{nil}
	for range sentences {
		var longer []text
		for _, l := range last {
			for i, marks := range [][]int{nil, {1}, {2}, {1, 2}} {
				longer = append(longer, append(slices.Clone(l), says(1+(i+len(l))%3, marks...)))
			}
		}
		all, last = append(all, longer...), longer
	}
	return all
}

// marks throws marks from 0 to last, at most so many.
func (d *dice) marks(most, last int) []int {
	var l []int
	for range d.roll(0, most) {
		l = append(l, d.roll(0, last))
	}
	slices.Sort(l)
	return slices.Compact(l)
}

// text throws a text of so many sentences, with marks from 0 to last.
func (d *dice) text(sentences, last int) text {
	var l text
	for range sentences {
		l = append(l, says(d.roll(1, 12), d.marks(4, last)...))
	}
	return l
}

// translate throws what the text may become in another language: mostly each
// sentence becomes one, with nearly the same marks.
func (d *dice) translate(l text) text {
	var r text
	nearly := func(marks []int) []int {
		marks = slices.DeleteFunc(slices.Clone(marks), func(int) bool { return d.one(8) })
		if d.one(8) {
			marks = append(marks, d.roll(0, 12))
		}
		slices.Sort(marks)
		marks = slices.Compact(marks)
		return marks[:min(len(marks), api.MaxMarks)]
	}
	for i := 0; i < len(l) && len(r) < api.MaxSentences-1; i++ {
		s := l[i]
		switch d.roll(0, 9) {
		case 0: // nothing of it
		case 1: // what is new
			r = append(r, says(d.roll(1, 12), nearly(s.Marks)...), says(d.roll(1, 12), d.marks(2, 12)...))
		case 2: // two of one
			half := len(s.Marks) / 2
			r = append(r, says(d.roll(1, 9), nearly(s.Marks[:half])...), says(d.roll(1, 9), nearly(s.Marks[half:])...))
		case 3: // one of two
			if i+1 < len(l) {
				r = append(r, says(d.roll(1, 12), nearly(append(slices.Clone(s.Marks), l[i+1].Marks...))...))
				i++
			}
		default:
			r = append(r, says(d.roll(1, 12), nearly(s.Marks)...))
		}
	}
	return r
}

// pair throws two texts of at most so many sentences.
func (d *dice) pair(sentences int) (l, r text) {
	l = d.text(d.roll(0, sentences), 12)
	if d.one(3) {
		return l, d.text(d.roll(0, sentences), 12)
	}
	r = d.translate(l)
	return l, r[:min(len(r), sentences)]
}

// match throws a match of two texts.
func (d *dice) match(l, r text) steps {
	var list steps
	for i, k := 0, 0; i < len(l) || k < len(r); {
		s := kinds()[d.roll(0, 4)]
		if i+s.Left <= len(l) && k+s.Right <= len(r) {
			list = append(list, s)
			i, k = i+s.Left, k+s.Right
		}
	}
	return list
}

// leads throws a Lead for each sentence.
func (d *dice) leads(l text) []bool {
	lead := make([]bool, len(l))
	for i := range lead {
		lead[i] = d.one(2)
	}
	return lead
}

// speech throws a speech of so many sentences; ranges have at most so many numbers.
func (d *dice) speech(sentences, wide int) tongue.Speech {
	s := tongue.Speech{Lag: d.roll(1, 12)}
	at := d.roll(0, 20)
	for range sentences {
		s.Starts = append(s.Starts, at)
		at += d.roll(1, 16)
		lo := d.roll(1, 10)
		s.Needs = append(s.Needs, span(lo, lo+d.roll(0, wide-1)))
	}
	return s
}
