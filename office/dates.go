package office

import (
	"slices"
)

// meet reports whether both dates have a day in common.
func (d Dates) meet(o Dates) bool { return d.Begin < o.End && o.Begin < d.End }

// collide returns the first term that, by these dates, has a day in common with
// another one of its office, and the first one after it with which it has.
func (v register) collide(dates []Dates) (first, second int, found bool) {
pairs:
	for i, d := range dates {
		for k := i + 1; k < len(dates); k++ {
			if v.Terms[i].Office == v.Terms[k].Office && d.meet(dates[k]) {
				first, second, found = i, k, true
				break pairs
			}
		}
	}
	return first, second, found
}

// core returns the dates by which the term has only the days that it has by all
// of its dates. There is at least one such day.
func (t Term) core() Dates { return Dates{t.From.Hi, t.To.Lo} }

// clash returns the first two terms that clash, if there are some. Terms clash
// just if their cores meet, as no other dates of theirs are fewer days.
func (v register) clash() (first, second int, found bool) {
	var cores []Dates
	for _, t := range v.Terms {
		cores = append(cores, t.core())
	}
	return v.collide(cores)
}

// canBe reports whether the roll can be.
func (v register) canBe() bool {
	_, _, clashes := v.clash()
	return !clashes
}

// right reports whether these are right dates.
func (v register) right(dates []Dates) bool {
	if len(dates) != len(v.Terms) {
		return false
	}
	var ranges []Range
	var days []int
	for i, t := range v.Terms {
		ranges = append(ranges, t.From, t.To)
		days = append(days, dates[i].Begin, dates[i].End)
	}
	_, _, found := v.collide(dates)
	return slices.EqualFunc(ranges, days, Range.has) && !found
}
