package tongue

import (
	"slices"

	"palantype/api"
)

// within reports whether n is from lo to hi.
func within(n, lo, hi int) bool { return lo <= n && n <= hi }

// all reports whether each element of the list fits. It asks none behind one that
// does not.
func all[T any](list []T, fits func(T) bool) bool {
	return !slices.ContainsFunc(list, func(x T) bool { return !fits(x) })
}

// rising reports whether the numbers rise, from lo to hi.
func rising(list []int, lo, hi int) bool {
	for i, n := range list {
		if !within(n, lo, hi) || i > 0 && list[i-1] >= n {
			return false
		}
	}
	return true
}

// fault returns the error of the texts, or OK. What one of them may have too much
// of is asked ahead of what is wrong in another one.
func fault(texts ...sentences) api.Errno {
	switch {
	case !all(texts, sentences.limited):
		return api.ErrLimit
	case !all(texts, sentences.valid):
		return api.ErrArg
	}
	return api.OK
}

// limited reports whether there are not too many sentences, nor marks in one.
func (l sentences) limited() bool {
	return len(l) <= api.MaxSentences && all(l, func(s Sentence) bool { return len(s.Marks) <= api.MaxMarks })
}

// valid reports whether each sentence is as it has to be.
func (l sentences) valid() bool {
	return all(l, func(s Sentence) bool {
		return rising(s.Marks, 0, api.MaxMark) && within(s.Size, 1, api.MaxSize)
	})
}

// valid reports whether the term is as it has to be.
func (t Term) valid() bool {
	text := func(s string) bool { return within(len(s), 1, api.MaxTermBytes) }
	return within(t.Mark, 0, api.MaxMark) && text(t.Left) && text(t.Right)
}

// agrees reports whether both terms are the same, or have nothing in common.
func (t Term) agrees(o Term) bool {
	return t == o || t.Mark != o.Mark && t.Left != o.Left && t.Right != o.Right
}

// agree reports whether each two of the terms agree.
func agree(l []Term) bool {
	agree := true
search:
	for i, t := range l {
		for _, o := range l[:i] {
			if !t.agrees(o) {
				agree = false
				break search
			}
		}
	}
	return agree
}

// valid reports whether the speech is as it has to be.
func (s Speech) valid() bool {
	return len(s.Starts) <= api.MaxSentences && rising(s.Starts, 0, api.MaxMoment) &&
		within(s.Lag, 1, api.MaxLag) &&
		len(s.Needs) == len(s.Starts) && all(s.Needs, Range.valid)
}

// valid reports whether an interpreter may need so many seconds.
func (r Range) valid() bool { return 1 <= r.Lo && r.Lo <= r.Hi && r.Hi <= api.MaxLag }
