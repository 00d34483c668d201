package draft

import (
	"cmp"
	"slices"

	"palantype/api"
)

// within reports whether n is from lo to hi.
func within(n, lo, hi int) bool { return lo <= n && n <= hi }

// all reports whether each element of the list fits.
func all[T any](list []T, fits func(T) bool) bool {
	return !slices.ContainsFunc(list, func(x T) bool { return !fits(x) })
}

// validText reports whether the text may be one of a word.
func validText(text string) bool {
	return within(len(text), 1, api.MaxWord) && all([]byte(text), func(b byte) bool { return within(int(b), 33, 126) })
}

// validPut reports whether a change, or a rule, may put the texts.
func validPut(texts []string) bool {
	return len(texts) <= api.MaxPut && all(texts, validText)
}

// validWord reports whether the word is as it has to be.
func validWord(w Word) bool {
	return validText(w.Text) && within(w.Second, 0, api.MaxSound) && within(w.Reporter, 0, api.MaxReporter)
}

// validDraft reports whether the draft is as it has to be.
func validDraft(d Draft) bool {
	bySecond := func(a, b Word) int { return cmp.Compare(a.Second, b.Second) }
	if len(d.Words) > api.MaxDraft || !all(d.Words, validWord) || !slices.IsSortedFunc(d.Words, bySecond) {
		return false
	}
	next := 0 // the least index that rises
	return all(d.Kept, func(word int) bool {
		rises := within(word, next, len(d.Words)-1)
		next = word + 1
		return rises
	})
}

// validStyle reports whether the rules are a style.
func validStyle(rules []Rule) bool {
	return len(rules) <= api.MaxRules && all(rules, func(r Rule) bool {
		return within(len(r.Find), 1, api.MaxCut) && all(r.Find, validText) && validPut(r.Put)
	})
}
