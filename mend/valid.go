package mend

import (
	"slices"

	"palantype/api"
)

// within reports whether n is from lo to hi.
func within(n, lo, hi int) bool { return lo <= n && n <= hi }

// all reports whether each element of the list fits.
func all[T any](list []T, fits func(T) bool) bool {
	return !slices.ContainsFunc(list, func(x T) bool { return !fits(x) })
}

// validText reports whether the text may be one of a word.
func validText(text string) bool {
	return within(len(text), 1, api.MaxWord) && all([]byte(text), func(b byte) bool { return within(int(b), 33, 126) })
}

// validValue reports whether a mark may have the value.
func validValue(n int) bool { return within(n, 0, api.MaxValue) }

// validLexicon reports whether the lexicon is as it has to be, even if a text
// stands in it twice.
func validLexicon(l Lexicon) bool {
	if max(len(l.Numbers), len(l.Names), len(l.Nots)) > api.MaxEntries {
		return false
	}
	return all(l.Numbers, func(n Number) bool { return validText(n.Text) && validValue(n.Value) }) &&
		all(l.Names, func(name []string) bool {
			return within(len(name), 1, api.MaxVariants) && all(name, validText)
		}) &&
		all(l.Nots, validText)
}

// validSwap reports whether the swap is as it has to be.
func validSwap(s Swap) bool {
	return (s.Kind == KindNumber || s.Kind == KindName) && validValue(s.Old) && validValue(s.New)
}

// validSaid reports whether the word is as it has to be.
func validSaid(w Said) bool {
	return validText(w.Text) && validMember(w.Speaker)
}

// validMember reports whether there may be such a member.
func validMember(n int) bool { return within(n, 0, api.MaxMember) }

// validReport reports whether the report is as it has to be.
func validReport(r Report) bool {
	return len(r.Words) <= api.MaxReport && all(r.Words, validSaid) &&
		within(r.Out, 0, api.MaxMinute) && within(r.Within, 0, api.MaxMinute)
}

// checkTexts returns the error of lists of texts, or OK.
func checkTexts(lists ...[]string) api.Errno {
	if !all(lists, func(texts []string) bool { return len(texts) <= api.MaxReport }) {
		return api.ErrLimit
	}
	if !all(lists, func(texts []string) bool { return all(texts, validText) }) {
		return api.ErrArg
	}
	return api.OK
}
