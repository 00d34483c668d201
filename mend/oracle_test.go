package mend_test

import (
	"slices"
	"strings"

	"palantype/api"
	"palantype/mend"
)

// This file says again what the chapter defines, as literally and slowly as
// can be; the tests hold the package against it.

// dice is a row of numbers that look thrown, and are the same in each run.
type dice uint64

// roll returns a number from lo to hi.
func (d *dice) roll(lo, hi int) int {
	*d = *d*6364136223846793005 + 1442695040888963407
	return lo + int(uint64(*d)>>33)%(hi-lo+1)
}

// one reports whether it is one time in so many.
func (d *dice) one(many int) bool { return d.roll(1, many) == 1 }

func words(s string) []string { return strings.Fields(s) }

func number(n int) mend.Mark { return mend.Mark{Kind: mend.KindNumber, Value: n} }

func name(i int) mend.Mark { return mend.Mark{Kind: mend.KindName, Value: i} }

func not() mend.Mark { return mend.Mark{Kind: mend.KindNot} }

func swapNumber(old, new int) mend.Swap {
	return mend.Swap{Kind: mend.KindNumber, Old: old, New: new}
}

func swapName(old, new int) mend.Swap {
	return mend.Swap{Kind: mend.KindName, Old: old, New: new}
}

// example is the lexicon of the chapter's examples; tenTo12 is the swap.
func example() mend.Lexicon {
	return mend.Lexicon{
		Numbers: []mend.Number{{Text: "ten", Value: 10}, {Text: "million", Value: 1000000}},
		Names:   [][]string{{"Smith", "Smyth"}, {"Jones"}},
		Nots:    []string{"not", "never"},
	}
}

func tenTo12() []mend.Swap { return []mend.Swap{swapNumber(10, 12)} }

// said has the words of the text, each with the speaker that stands behind it,
// a digit.
func said(text string) []mend.Said {
	var l []mend.Said
	for _, s := range words(text) {
		last := len(s) - 1
		l = append(l, mend.Said{Text: s[:last], Speaker: int(s[last] - '0')})
	}
	return l
}

func report(text string, out, within int) mend.Report {
	return mend.Report{Words: said(text), Out: out, Within: within}
}

func request(by, minute, from, cut int, put string) mend.Request {
	return mend.Request{By: by, Minute: minute, From: from, Cut: cut, Put: words(put)}
}

// markOf returns the mark of a text, and whether it has one.
func markOf(l mend.Lexicon, text string) (mend.Mark, bool) {
	for _, n := range l.Numbers {
		if n.Text == text {
			return number(n.Value), true
		}
	}
	for i := range l.Names {
		if slices.Contains(l.Names[i], text) {
			return name(i), true
		}
	}
	if slices.Contains(l.Nots, text) {
		return not(), true
	}
	value := 0
	for _, c := range text {
		if c < '0' || c > '9' {
			return mend.Mark{}, false
		}
		value = 10*value + int(c-'0')
	}
	if len(text) > 9 || text != "0" && text[0] == '0' {
		return mend.Mark{}, false
	}
	return number(value), true
}

func senseOf(l mend.Lexicon, texts []string) []mend.Mark {
	var marks []mend.Mark
	for _, text := range texts {
		if m, is := markOf(l, text); is {
			marks = append(marks, m)
		}
	}
	return marks
}

func mayBecome(swaps []mend.Swap, a, b mend.Mark) bool {
	for _, s := range swaps {
		if s.Kind == a.Kind && s.Kind == b.Kind && s.Old == a.Value && s.New == b.Value {
			return true
		}
	}
	return a == b
}

func rowMayBecome(swaps []mend.Swap, a, b []mend.Mark) bool {
	if len(a) != len(b) {
		return false
	}
	for i := range a {
		if !mayBecome(swaps, a[i], b[i]) {
			return false
		}
	}
	return true
}

// troubleOf returns the trouble of two rows of marks: the first ones are taken
// away, or put in, or set against each other.
func troubleOf(swaps []mend.Swap, a, b []mend.Mark) int {
	known := map[[2]int]int{}
	var from func(i, k int) int
	from = func(i, k int) int {
		if i == len(a) || k == len(b) {
			return len(a) - i + len(b) - k
		}
		n, is := known[[2]int{i, k}]
		if !is {
			n = 1 + min(from(i+1, k), from(i, k+1), from(i+1, k+1))
			if mayBecome(swaps, a[i], b[k]) {
				n = min(n, from(i+1, k+1))
			}
			known[[2]int{i, k}] = n
		}
		return n
	}
	return from(0, 0)
}

// waysFrom returns all rows of so many marks at most: at n those that come from
// this row by n changes, but not by fewer, each of which takes a mark away, puts
// one in, or replaces one. (Each value of the marks fits a byte.)
func waysFrom(row, alphabet []mend.Mark, most int) [][][]mend.Mark {
	seen := map[string]bool{keyOf(row): true}
	var ways [][][]mend.Mark
	for rows := [][]mend.Mark{row}; len(rows) > 0; {
		ways = append(ways, rows)
		var next [][]mend.Mark
		for _, x := range rows {
			for _, y := range changed(x, alphabet) {
				if key := keyOf(y); !seen[key] && len(y) <= most {
					seen[key] = true
					next = append(next, y)
				}
			}
		}
		rows = next
	}
	return ways
}

// searchedTrouble returns how many changes lead to a row that may become the
// new one.
func searchedTrouble(swaps []mend.Swap, ways [][][]mend.Mark, new []mend.Mark) int {
	return slices.IndexFunc(ways, func(rows [][]mend.Mark) bool {
		return slices.ContainsFunc(rows, func(row []mend.Mark) bool { return rowMayBecome(swaps, row, new) })
	})
}

// changed returns the rows that differ from this one by one mark taken away,
// put in, or replaced.
func changed(row, alphabet []mend.Mark) [][]mend.Mark {
	var l [][]mend.Mark
	for i := range row {
		l = append(l, slices.Concat(row[:i], row[i+1:]))
		for _, m := range alphabet {
			l = append(l, slices.Concat(row[:i], []mend.Mark{m}, row[i+1:]))
		}
	}
	for i := range len(row) + 1 {
		for _, m := range alphabet {
			l = append(l, slices.Concat(row[:i], []mend.Mark{m}, row[i:]))
		}
	}
	return l
}

func keyOf(row []mend.Mark) string {
	var b []byte
	for _, m := range row {
		b = append(b, m.Kind, byte(m.Value))
	}
	return string(b)
}

// textsOf returns the texts of words.
func textsOf(l []mend.Said) []string {
	var texts []string
	for _, w := range l {
		texts = append(texts, w.Text)
	}
	return texts
}

// isText says whether a text is one.
func isText(s string) bool {
	for i := range len(s) {
		if s[i] < 33 || s[i] > 126 {
			return false
		}
	}
	return 1 <= len(s) && len(s) <= 32
}

func notText(s string) bool { return !isText(s) }

// replaces says whether the request replaces the word.
func replaces(q mend.Request, word int) bool { return q.From <= word && word < q.From+q.Cut }

// meetIn says whether requests for a report of so many words meet.
func meetIn(words int, a, b mend.Request) bool {
	for i := range words {
		if replaces(a, i) && replaces(b, i) {
			return true
		}
	}
	inside := func(a, b mend.Request) bool {
		return a.Cut == 0 && a.From > b.From && a.From < b.From+b.Cut
	}
	return inside(a, b) || inside(b, a) || a.Cut == 0 && b.Cut == 0 && a.From == b.From
}

// own says whether there is this word, and it is the member's.
func own(r mend.Report, member, word int) bool {
	return 0 <= word && word < len(r.Words) && r.Words[word].Speaker == member
}

// world is what requests are decided by.
type world struct {
	l     mend.Lexicon
	swaps []mend.Swap
	r     mend.Report
}

// answerOf returns the error of a request, after these were accepted.
func (w world) answerOf(q mend.Request, accepted []mend.Request) api.Errno {
	many := len(w.r.Words)
	if q.From < 0 || q.Cut < 0 || q.From > many || q.Cut > many || q.From+q.Cut > many {
		return api.ErrRange
	}
	if q.Cut > 8 || len(q.Put) > 8 || slices.ContainsFunc(q.Put, notText) || q.Cut == 0 && len(q.Put) == 0 || q.By < 0 || q.By > 999 {
		return api.ErrArg
	}
	for i := range many {
		if replaces(q, i) && !own(w.r, q.By, i) {
			return api.ErrName
		}
	}
	if q.Cut == 0 && !own(w.r, q.By, q.From-1) && !own(w.r, q.By, q.From) {
		return api.ErrName
	}
	if q.Minute < w.r.Out || q.Minute > w.r.Out+w.r.Within {
		return api.ErrLate
	}
	if !rowMayBecome(w.swaps, senseOf(w.l, textsOf(w.r.Words[q.From:q.From+q.Cut])), senseOf(w.l, q.Put)) {
		return api.ErrFail
	}
	for _, a := range accepted {
		if meetIn(many, a, q) {
			return api.ErrTwice
		}
	}
	return api.OK
}

// answersOf returns the errors of valid requests: again and again, the one that
// is next is looked for.
func (w world) answersOf(requests []mend.Request) []api.Errno {
	answers := make([]api.Errno, len(requests))
	done := make([]bool, len(requests))
	var accepted []mend.Request
	for range requests {
		next := -1
		for i, q := range requests {
			if done[i] {
				continue
			}
			if next == -1 || q.Minute < requests[next].Minute || q.Minute == requests[next].Minute && q.By < requests[next].By {
				next = i
			}
		}
		done[next] = true
		if answers[next] = w.answerOf(requests[next], accepted); answers[next] == api.OK {
			accepted = append(accepted, requests[next])
		}
	}
	return answers
}

// versionsOf returns the versions, if these are the answers: place by place,
// what is put there, and then the word that stands there.
func (w world) versionsOf(requests []mend.Request, answers []api.Errno) []mend.Segment {
	var l []mend.Segment
	open := false // the last segment is one of words that stay
	for place := range len(w.r.Words) + 1 {
		changer := -1
		for i, q := range requests {
			if answers[i] != api.OK {
				continue
			}
			if q.Cut == 0 && q.From == place {
				l = append(l, mend.Segment{New: q.Put, Request: i})
				open = false
			}
			if replaces(q, place) {
				changer = i
			}
		}
		if place == len(w.r.Words) {
			break
		}
		text := w.r.Words[place].Text
		switch {
		case changer == -1 && open:
			last := &l[len(l)-1]
			last.Old, last.New = append(last.Old, text), append(last.New, text)
		case changer == -1:
			l = append(l, mend.Segment{Old: []string{text}, New: []string{text}, Request: -1})
		case requests[changer].From == place:
			l = append(l, mend.Segment{Old: []string{text}, New: requests[changer].Put, Request: changer})
		default:
			l[len(l)-1].Old = append(l[len(l)-1].Old, text)
		}
		open = changer == -1
	}
	return l
}

// sameSegment says whether both segments are; nil and lists of no texts are.
func sameSegment(a, b mend.Segment) bool {
	return slices.Equal(a.Old, b.Old) && slices.Equal(a.New, b.New) && a.Request == b.Request
}

// pool returns the texts of which thrown words are.
func pool() []string { return words("a b c no not ten two Smith Smyth Jones 2 7 10 07") }

func (d *dice) text() string { return pool()[d.roll(0, len(pool())-1)] }

func (d *dice) texts(lo, hi int) []string {
	var l []string
	for range d.roll(lo, hi) {
		l = append(l, d.text())
	}
	return l
}

// lexicon throws a lexicon of texts of the pool.
func (d *dice) lexicon() mend.Lexicon {
	var l mend.Lexicon
	for _, text := range pool() {
		switch d.roll(0, 5) {
		case 0, 1:
			l.Numbers = append(l.Numbers, mend.Number{Text: text, Value: d.value()})
		case 2:
			l.Names = append(l.Names, []string{text})
		case 3:
			l.Nots = append(l.Nots, text)
		case 4:
			if i := len(l.Names) - 1; i >= 0 && len(l.Names[i]) < 5 {
				l.Names[i] = append(l.Names[i], text)
			}
		}
	}
	return l
}

func (d *dice) value() int { return []int{0, 1, 2, 7, 10}[d.roll(0, 4)] }

// swaps throws so many swaps at most.
func (d *dice) swaps(most int) []mend.Swap {
	var l []mend.Swap
	for range d.roll(0, most) {
		l = append(l, mend.Swap{Kind: uint8(d.roll(1, 2)), Old: d.value(), New: d.value()})
	}
	return l
}

// world throws a world with a report of so many words at most, in which members
// from 0 to 3 say some words one after the other.
func (d *dice) world(most int) world {
	w := world{l: d.lexicon(), swaps: d.swaps(12), r: mend.Report{Out: d.roll(0, 3), Within: d.roll(6, 14)}}
	speaker := 0
	for range max(d.roll(0, most), d.roll(0, most)) {
		if d.one(3) {
			speaker = d.roll(0, 3)
		}
		w.r.Words = append(w.r.Words, mend.Said{Text: d.text(), Speaker: speaker})
	}
	return w
}

// request throws a request, which mostly is for words of one's own, and often
// puts something like them.
func (d *dice) request(w world) mend.Request {
	many := len(w.r.Words)
	q := mend.Request{By: d.roll(0, 3), Minute: d.roll(0, 15), From: d.roll(0, many)}
	q.Cut = d.roll(0, min(3, many-q.From))
	if many > 0 && !d.one(8) {
		q.By = w.r.Words[min(q.From, many-1)].Speaker
	}
	if d.one(5) {
		q.Put = d.texts(0, 3)
	} else {
		q.Put = d.like(w, textsOf(w.r.Words[q.From:q.From+q.Cut]))
	}
	if d.one(20) {
		q.From, q.Cut = q.From+d.roll(-1, 2), q.Cut+d.roll(-1, 2)
	}
	return q
}

// like throws texts that often have the same sense as these: each stays, or is
// one that its mark may become, if there is one, or is left out if it has none;
// and there may be more.
func (d *dice) like(w world, texts []string) []string {
	var l []string
	for _, text := range texts {
		m, is := markOf(w.l, text)
		var others []string
		for _, x := range pool() {
			if n, may := markOf(w.l, x); may == is && (!is || mayBecome(w.swaps, m, n)) {
				others = append(others, x)
			}
		}
		if !is && d.one(3) {
			continue
		}
		l = append(l, others[d.roll(0, len(others)-1)])
	}
	for range d.roll(0, 3) {
		if text := d.text(); d.one(8) || len(senseOf(w.l, []string{text})) == 0 {
			l = append(l, text)
		}
	}
	return l
}

// requests throws so many requests at most.
func (d *dice) requests(w world, most int) []mend.Request {
	var l []mend.Request
	for range d.roll(0, most) {
		l = append(l, d.request(w))
	}
	return l
}
