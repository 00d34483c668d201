package office_test

import (
	"slices"
	"strings"

	"palantype/api"
	"palantype/office"
)

// This file says again what the chapter defines, as literally and slowly as
// can be; the tests hold the package against it.

// dice is a row of numbers that look thrown, and are the same in each run.
type dice uint64

// roll returns a number from lo to hi.
func (d *dice) roll(lo, hi int) int {
	*d = *d*6364136223846793005 + 1442695040888963407
	return lo + int(uint64(*d)>>33)%(hi-lo+1)
}

// one reports whether it is one time in so many.
func (d *dice) one(many int) bool { return d.roll(1, many) == 1 }

// mix deals out the elements of the list.
func mix[T any](d *dice, l []T) {
	for i := range l {
		k := d.roll(0, i)
		l[i], l[k] = l[k], l[i]
	}
}

func words(s string) []string { return strings.Fields(s) }

func to(lo, hi int) office.Range { return office.Range{Lo: lo, Hi: hi} }

// term returns a term with these ends of From and of To.
func term(person, of int, ends ...int) office.Term {
	return office.Term{Person: person, Office: of, From: to(ends[0], ends[1]), To: to(ends[2], ends[3])}
}

func dates(begin, end int) office.Dates { return office.Dates{Begin: begin, End: end} }

func known(ends ...int) office.Known {
	return office.Known{Begin: to(ends[0], ends[1]), End: to(ends[2], ends[3])}
}

func called(person, day int, text string) office.Called {
	return office.Called{Person: person, Day: day, Text: text}
}

// bare returns a roll of these terms, without names.
func bare(persons, offices int, terms ...office.Term) office.Roll {
	return office.Roll{Persons: persons, Offices: offices, Terms: terms}
}

// example is the roll of the chapter's examples.
func example() office.Roll {
	r := bare(3, 2, term(0, 0, 100, 110, 200, 220), term(1, 0, 190, 230, 300, 300), term(0, 1, 150, 150, 400, 400))
	r.Names = []office.Called{called(0, 0, "Ann Lee"), called(0, 250, "Lady Lee")}
	return r
}

func in(r office.Range, day int) bool { return r.Lo <= day && day <= r.Hi }

func has(d office.Dates, day int) bool { return d.Begin <= day && day < d.End }

// inCommon says whether both have a day in common.
func inCommon(a, b office.Dates) bool {
	for day := a.Begin; day < a.End; day++ {
		if has(b, day) {
			return true
		}
	}
	return false
}

// datesOf returns all dates of a term.
func datesOf(t office.Term) []office.Dates {
	var l []office.Dates
	for begin := t.From.Lo; begin <= t.From.Hi; begin++ {
		for end := t.To.Lo; end <= t.To.Hi; end++ {
			l = append(l, dates(begin, end))
		}
	}
	return l
}

// isRight says whether these are right dates of a valid roll.
func isRight(r office.Roll, l []office.Dates) bool {
	if len(l) != len(r.Terms) {
		return false
	}
	for i, t := range r.Terms {
		if !in(t.From, l[i].Begin) || !in(t.To, l[i].End) {
			return false
		}
		for k := range i {
			if r.Terms[k].Office == t.Office && inCommon(l[i], l[k]) {
				return false
			}
		}
	}
	return true
}

// allRight returns all right dates of a valid roll.
func allRight(r office.Roll) [][]office.Dates {
	lists := [][]office.Dates{{}}
	for _, t := range r.Terms {
		var longer [][]office.Dates
		for _, l := range lists {
			for _, d := range datesOf(t) {
				longer = append(longer, append(slices.Clip(l), d))
			}
		}
		lists = longer
	}
	return slices.DeleteFunc(lists, func(l []office.Dates) bool { return !isRight(r, l) })
}

// few says whether a roll has so few dates that all can be tried.
func few(r office.Roll) bool {
	count := 1
	for _, t := range r.Terms {
		if count *= len(datesOf(t)); count > 3000 {
			return false
		}
	}
	return true
}

// clashing says whether two terms clash.
func clashing(a, b office.Term) bool {
	if a.Office != b.Office {
		return false
	}
	for _, x := range datesOf(a) {
		for _, y := range datesOf(b) {
			if !inCommon(x, y) {
				return false
			}
		}
	}
	return true
}

// firstClash returns the first two terms that clash.
func firstClash(r office.Roll) (first, second int, found bool) {
	for i, a := range r.Terms {
		for k, b := range r.Terms {
			if i != k && clashing(a, b) {
				return i, k, true
			}
		}
	}
	return 0, 0, false
}

// knownBy returns what is known of each term, by all right dates, of which there
// are some.
func knownBy(r office.Roll, right [][]office.Dates) []office.Known {
	l := make([]office.Known, len(r.Terms))
	for i := range r.Terms {
		var begins, ends []int
		for _, x := range right {
			begins, ends = append(begins, x[i].Begin), append(ends, x[i].End)
		}
		l[i] = known(slices.Min(begins), slices.Max(begins), slices.Min(ends), slices.Max(ends))
	}
	return l
}

// holdersOn returns who hold the office on the day, by these dates.
func holdersOn(r office.Roll, l []office.Dates, of, day int) []int {
	var persons []int
	for i, t := range r.Terms {
		if t.Office == of && has(l[i], day) {
			persons = append(persons, t.Person)
		}
	}
	return persons
}

// held is what is to be said of who holds an office on a day.
type held struct {
	surely  int
	perhaps []int
	vacant  bool
}

func sameHeld(a, b held) bool {
	return a.surely == b.surely && slices.Equal(a.perhaps, b.perhaps) && a.vacant == b.vacant
}

// heldBy returns who holds the office on the day, by all right dates.
func heldBy(r office.Roll, right [][]office.Dates, of, day int) held {
	count := make([]int, r.Persons)
	h := held{surely: -1}
	for _, l := range right {
		holders := holdersOn(r, l, of, day)
		for person := range r.Persons {
			if slices.Contains(holders, person) {
				count[person]++
			}
		}
		if len(holders) == 0 {
			h.vacant = true
		}
	}
	for person, n := range count {
		if n > 0 {
			h.perhaps = append(h.perhaps, person)
		}
		if n == len(right) {
			h.surely = person
		}
	}
	return h
}

// styleOn returns the style of the person on the day, by these dates.
func styleOn(r office.Roll, l []office.Dates, person, day int) int {
	for of := range r.Offices {
		if slices.Contains(holdersOn(r, l, of, day), person) {
			return of
		}
	}
	return -1
}

// stylesBy returns all styles of the person on the day, by all right dates.
func stylesBy(r office.Roll, right [][]office.Dates, person, day int) []int {
	var styles []int
	for _, l := range right {
		styles = append(styles, styleOn(r, l, person, day))
	}
	slices.Sort(styles)
	return slices.Compact(styles)
}

// coresOf returns the dates by which each term has its fewest days. A term has
// these days by all of its dates; so these are right dates just if there are
// some, and one term can have other dates than these just if it can by some
// right dates.
func coresOf(r office.Roll) []office.Dates {
	var l []office.Dates
	for _, t := range r.Terms {
		l = append(l, dates(t.From.Hi, t.To.Lo))
	}
	return l
}

// possible says whether the term can have these dates, which are of its ranges,
// in a roll that can be.
func possible(r office.Roll, term int, x office.Dates) bool {
	for i, t := range r.Terms {
		if i != term && t.Office == r.Terms[term].Office && inCommon(dates(t.From.Hi, t.To.Lo), x) {
			return false
		}
	}
	return true
}

// knownByCores returns what is known of each term of a roll that can be.
func knownByCores(r office.Roll) []office.Known {
	l := make([]office.Known, len(r.Terms))
	for i, t := range r.Terms {
		var begins, ends []int
		for day := t.From.Lo; day <= t.From.Hi; day++ {
			if possible(r, i, dates(day, t.To.Lo)) {
				begins = append(begins, day)
			}
		}
		for day := t.To.Lo; day <= t.To.Hi; day++ {
			if possible(r, i, dates(t.From.Hi, day)) {
				ends = append(ends, day)
			}
		}
		l[i] = known(slices.Min(begins), slices.Max(begins), slices.Min(ends), slices.Max(ends))
	}
	return l
}

// heldByCores returns who holds the office on the day, of a roll that can be.
func heldByCores(r office.Roll, of, day int) held {
	holders := holdersOn(r, coresOf(r), of, day)
	h := held{surely: -1, vacant: len(holders) == 0}
	if !h.vacant {
		h.surely = holders[0]
	}
	for i, t := range r.Terms {
		for _, x := range datesOf(t) {
			if t.Office == of && has(x, day) && possible(r, i, x) {
				h.perhaps = append(h.perhaps, t.Person)
				break
			}
		}
	}
	slices.Sort(h.perhaps)
	h.perhaps = slices.Compact(h.perhaps)
	return h
}

// stylesByCores returns the styles of the person on the day, of a roll that can
// be. Each office has its own right dates, whatever those of the others are.
func stylesByCores(r office.Roll, person, day int) []int {
	styles := []int{-1}
	for of := range r.Offices {
		h := heldByCores(r, of, day)
		if slices.Contains(h.perhaps, person) {
			styles = append(styles, of)
		}
		if h.surely == person {
			return styles[1:]
		}
	}
	return styles
}

// calledOn returns how the person is called on the day, or nothing.
func calledOn(r office.Roll, person, day int) string {
	for ; day >= 0; day-- {
		for _, c := range r.Names {
			if c.Person == person && c.Day == day {
				return c.Text
			}
		}
	}
	return ""
}

func isGap(text string) bool { return text == "..." }

func isRemark(text string) bool {
	return len(text) >= 3 && text[0] == '[' && text[len(text)-1] == ']'
}

// withPlaces returns the indices of the texts of the quotation that have a place.
func withPlaces(quotation []string) []int {
	var l []int
	for i, text := range quotation {
		if !isGap(text) {
			l = append(l, i)
		}
	}
	return l
}

// fitsAt says whether the quotation fits the paper at these places, rule by rule.
func fitsAt(paper, quotation, kept []string, places []int) bool {
	texts := withPlaces(quotation)
	if len(texts) == 0 || len(places) != len(texts) {
		return false
	}
	for n, place := range places {
		if place < 0 || place >= len(paper) || n > 0 && place <= places[n-1] {
			return false
		}
		if text := quotation[texts[n]]; !isRemark(text) && text != paper[place] {
			return false
		}
	}
	for n := 1; n < len(places); n++ {
		beside := texts[n] == texts[n-1]+1
		if beside && places[n] != places[n-1]+1 {
			return false
		}
		between := paper[places[n-1]+1 : places[n]]
		if !beside && slices.ContainsFunc(between, func(text string) bool { return slices.Contains(kept, text) }) {
			return false
		}
	}
	return true
}

// risingLists returns all lists of so many rising numbers below a limit, from
// the least on.
func risingLists(many, limit int) [][]int {
	if many == 0 {
		return [][]int{{}}
	}
	var lists [][]int
	for _, l := range risingLists(many-1, limit) {
		from := 0
		if len(l) > 0 {
			from = l[len(l)-1] + 1
		}
		for n := from; n < limit; n++ {
			lists = append(lists, append(slices.Clip(l), n))
		}
	}
	return lists
}

// fittingPlaces returns all places that the quotation fits, from the least on.
func fittingPlaces(paper, quotation, kept []string) [][]int {
	all := risingLists(len(withPlaces(quotation)), len(paper))
	return slices.DeleteFunc(all, func(l []int) bool { return !fitsAt(paper, quotation, kept, l) })
}

// around throws a term that could have these dates, among others up to so many
// days away; a core is left.
func (d *dice) around(person, of int, x office.Dates, away int) office.Term {
	day := func(n int) int { return min(max(n, 0), api.MaxRollDay) }
	hi := min(x.Begin+d.roll(0, away), x.End-1)
	lo := max(x.End-d.roll(0, away), hi+1)
	return term(person, of, day(x.Begin-d.roll(0, away)), hi, lo, day(x.End+d.roll(0, away)))
}

// smallRoll throws a valid roll of few dates, without names: one that has right
// dates, or one of whatever terms there are.
func (d *dice) smallRoll() office.Roll {
	for {
		r := bare(d.roll(1, 3), d.roll(1, 2))
		count, wild, away := d.roll(0, 5), d.one(2), d.roll(0, 3)
		next := make([]int, r.Offices) // from when on nobody has it yet
		for range count {
			of := d.roll(0, r.Offices-1)
			begin := next[of] + max(0, d.roll(-2, 3))
			if wild {
				begin = d.roll(0, 5)
			}
			x := dates(begin, begin+d.roll(1, 4))
			next[of] = x.End
			r.Terms = append(r.Terms, d.around(d.roll(0, r.Persons-1), of, x, away))
		}
		mix(d, r.Terms)
		if few(r) {
			return r
		}
	}
}

// largeRoll throws a valid roll of any size, and right dates of it, up to a day.
func (d *dice) largeRoll(last int) (office.Roll, []office.Dates) {
	r := bare(d.roll(1, api.MaxHolders), d.roll(1, api.MaxOffices))
	type dated struct {
		office.Term
		office.Dates
	}
	var l []dated
	next := make([]int, r.Offices)
	for range d.roll(0, api.MaxHeld) {
		of := d.roll(0, r.Offices-1)
		begin := next[of] + max(0, d.roll(-last/60, last/40))
		x := dates(begin, begin+d.roll(1, last/8+1))
		if x.End > last {
			continue
		}
		next[of] = x.End
		l = append(l, dated{d.around(d.roll(0, r.Persons-1), of, x, last/20), x})
	}
	mix(d, l)
	var right []office.Dates
	for _, x := range l {
		r.Terms, right = append(r.Terms, x.Term), append(right, x.Dates)
	}
	r.Names = d.names(r.Persons, d.roll(0, api.MaxCalled), last)
	return r, right
}

// names throws up to so many names, up to a day, none of them twice.
func (d *dice) names(persons, count, last int) []office.Called {
	var l []office.Called
	for range count {
		c := called(d.roll(0, persons-1), d.roll(0, last), strings.Repeat(string(rune('A'+d.roll(0, 25))), d.roll(1, api.MaxWord)))
		if !slices.ContainsFunc(l, func(o office.Called) bool { return o.Person == c.Person && o.Day == c.Day }) {
			l = append(l, c)
		}
	}
	return l
}

// texts throws so many texts of an alphabet.
func (d *dice) texts(count int, alphabet ...string) []string {
	var l []string
	for range count {
		l = append(l, alphabet[d.roll(0, len(alphabet)-1)])
	}
	return l
}

// quotation throws a quotation of some of the texts of a paper: some are left
// out, or are remarks, and seldom there are others.
func (d *dice) quotation(paper []string) []string {
	var l []string
	from := d.roll(0, len(paper)-1)
	for i := from; i < len(paper) && len(l) < api.MaxQuoted-2; i++ {
		switch d.roll(0, 9) {
		case 0:
			l = append(l, "[remark]")
		case 1, 2:
			l = append(l, "...")
			i += d.roll(-1, 2)
		case 3:
			l = append(l, paper[d.roll(0, len(paper)-1)])
		case 4:
			if len(withPlaces(l)) > 0 {
				return l
			}
		default:
			l = append(l, paper[i])
		}
	}
	if len(withPlaces(l)) == 0 {
		l = append(l, paper[from])
	}
	return l
}
