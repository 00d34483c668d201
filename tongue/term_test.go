package tongue_test

import (
	"math"
	"slices"
	"strconv"
	"strings"
	"testing"

	"palantype/api"
	"palantype/tongue"
)

// holdTerms holds that Terms returns the error.
func holdTerms(t *testing.T, want api.Errno, l ...tongue.Term) {
	t.Helper()
	if e := tongue.Terms(l); e != want {
		t.Fatalf("Terms of %v: %v, not %v", l, e, want)
	}
}

// several returns so many terms that have nothing in common.
func several(count int) []tongue.Term {
	var l []tongue.Term
	for i := range count {
		l = append(l, term(i, "l"+strconv.Itoa(i), "r"+strconv.Itoa(i)))
	}
	return l
}

// P8.4: which terms agree.
func TestP8_4Terms(t *testing.T) {
	bill, act := term(1, "bill", "projet"), term(2, "act", "loi")
	holdTerms(t, api.OK)
	holdTerms(t, api.OK, bill)
	holdTerms(t, api.OK, bill, act)
	holdTerms(t, api.OK, bill, act, bill, bill)
	// The same word of both languages is no matter.
	holdTerms(t, api.OK, term(1, "loi", "bill"), term(2, "bill", "loi"))
	holdTerms(t, api.OK, term(1, "budget", "budget"), term(2, "vote", "vote"))
	// The same Mark, and another Left, another Right, or both.
	holdTerms(t, api.ErrTwice, bill, act, term(1, "act", "projet"))
	holdTerms(t, api.ErrTwice, bill, term(1, "draft", "projet"))
	holdTerms(t, api.ErrTwice, bill, term(1, "bill", "texte"))
	holdTerms(t, api.ErrTwice, bill, term(1, "draft", "texte"))
	// Another Mark, and the same Left, the same Right, or both.
	holdTerms(t, api.ErrTwice, bill, term(3, "bill", "texte"))
	holdTerms(t, api.ErrTwice, bill, term(3, "draft", "projet"))
	holdTerms(t, api.ErrTwice, bill, term(3, "bill", "projet"))
	// Texts are the same just if all their bytes are.
	holdTerms(t, api.OK, bill, term(2, "Bill", "Projet"), term(3, "bill ", "projet "), term(4, "bil", "proje"))
	holdTerms(t, api.OK, term(0, "\x00", "\xff"), term(999, "\xff", "\x00"))
	// Wherever both stand.
	for at := range 29 {
		for other := range at {
			l := several(30)
			l[at].Left = l[other].Left
			holdTerms(t, api.ErrTwice, l...)
			l[at] = l[other]
			holdTerms(t, api.OK, l...)
			l[at].Right = "x"
			holdTerms(t, api.ErrTwice, l...)
		}
	}
}

// P8.4: terms that are refused, and in which order.
func TestP8_4Refused(t *testing.T) {
	bill := term(1, "bill", "projet")
	long, longest := strings.Repeat("x", 21), strings.Repeat("x", 20)
	holdTerms(t, api.OK, term(0, longest, longest), term(999, "y", "y"))
	for _, bad := range []tongue.Term{
		term(-1, "a", "b"), term(1000, "a", "b"), term(math.MinInt, "a", "b"), term(math.MaxInt, "a", "b"),
		term(2, "", "b"), term(2, "a", ""), term(2, long, "b"), term(2, "a", long), term(2, strings.Repeat("é", 11), "b"), {},
	} {
		holdTerms(t, api.ErrArg, bad)
		holdTerms(t, api.ErrArg, bill, bill, bad)
		// Ahead of what does not agree, and behind what is too much.
		holdTerms(t, api.ErrArg, bill, term(3, "bill", "x"), bad)
		holdTerms(t, api.ErrArg, append(several(29), bad)...)
		holdTerms(t, api.ErrLimit, append(several(30), bad)...)
	}
	holdTerms(t, api.OK, several(30)...)
	holdTerms(t, api.ErrLimit, several(31)...)
	holdTerms(t, api.ErrLimit, slices.Repeat([]tongue.Term{bill}, 31)...)
	holdTerms(t, api.ErrLimit, append(several(30), term(29, "a", "b"))...)
	holdTerms(t, api.ErrLimit, make([]tongue.Term, 31)...)
}

// P8.4: all triples of small terms.
func TestP8_4SmallTerms(t *testing.T) {
	var all []tongue.Term
	for i := range 18 {
		all = append(all, term(i%3, []string{"a", "b", "c"}[i/3%3], []string{"a", "b"}[i/9]))
	}
	seen := map[api.Errno]int{}
	for _, a := range all {
		for _, b := range all {
			for _, c := range all {
				l := []tongue.Term{a, b, c}
				want := faultOfTerms(l)
				holdTerms(t, want, l...)
				seen[want]++
			}
		}
	}
	if seen[api.OK] < 50 || seen[api.ErrTwice] < 1000 {
		t.Errorf("%v", seen)
	}
}
