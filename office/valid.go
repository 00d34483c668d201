package office

import (
	"slices"

	"palantype/api"
)

// within reports whether n is from lo to hi.
func within(n, lo, hi int) bool { return lo <= n && n <= hi }

// all reports whether each element of the list fits.
func all[T any](list []T, fits func(T) bool) bool {
	return !slices.ContainsFunc(list, func(x T) bool { return !fits(x) })
}

// has reports whether the day is one of the range.
func (r Range) has(day int) bool { return within(day, r.Lo, r.Hi) }

// calendar returns the range of all days that there are.
func calendar() Range { return Range{0, api.MaxRollDay} }

// validRoll reports whether the roll is as it has to be, apart from names.
func validRoll(r Roll) bool {
	return within(r.Persons, 1, api.MaxHolders) && within(r.Offices, 1, api.MaxOffices) &&
		len(r.Terms) <= api.MaxHeld && all(r.Terms, r.validTerm)
}

// validTerm reports whether the term is as it has to be in the roll.
func (r Roll) validTerm(t Term) bool {
	return within(t.Person, 0, r.Persons-1) && within(t.Office, 0, r.Offices-1) &&
		all([]int{t.From.Lo, t.From.Hi, t.To.Lo, t.To.Hi}, calendar().has) &&
		t.From.Lo <= t.From.Hi && t.From.Hi < t.To.Lo && t.To.Lo <= t.To.Hi
}

// validName reports whether the name is as it has to be in the roll.
func (r Roll) validName(c Called) bool {
	return within(c.Person, 0, r.Persons-1) && calendar().has(c.Day) && validText(c.Text, ' ')
}

// validWord reports whether the text may be one of a paper or of a quotation.
func validWord(text string) bool { return validText(text, '!') }

// validText reports whether the text is as long as it has to be, with bytes from
// the least one to 126.
func validText(text string, least byte) bool {
	return within(len(text), 1, api.MaxWord) && all([]byte(text), func(b byte) bool { return least <= b && b <= '~' })
}
