package office_test

import (
	"math"
	"slices"
	"strings"
	"testing"
	"time"

	"palantype/api"
	"palantype/office"
)

// holdQuote holds that Quote returns these places, or, if there are none,
// ErrNone.
func holdQuote(t *testing.T, paper, quotation, kept []string, want []int) {
	t.Helper()
	e := api.OK
	if len(want) == 0 {
		e = api.ErrNone
	}
	if l, f := office.Quote(paper, quotation, kept); !slices.Equal(l, want) || f != e {
		t.Fatalf("Quote of %q from %q with %q: %v, %v, not %v, %v", quotation, paper, kept, l, f, want, e)
	}
}

// holdFirst holds that Quote returns the first one of all places that the
// quotation fits, and returns all of them.
func holdFirst(t *testing.T, paper, quotation, kept []string) [][]int {
	t.Helper()
	all := fittingPlaces(paper, quotation, kept)
	if len(all) == 0 {
		holdQuote(t, paper, quotation, kept, nil)
	} else {
		holdQuote(t, paper, quotation, kept, all[0])
	}
	return all
}

// holdNoQuote holds that these are not as described.
func holdNoQuote(t *testing.T, paper, quotation, kept []string) {
	t.Helper()
	if l, e := office.Quote(paper, quotation, kept); len(l) != 0 || e != api.ErrArg {
		t.Fatalf("Quote of %q from %q with %q: %v, %v", quotation, paper, kept, l, e)
	}
	for _, places := range [][]int{nil, {0}, {0, 1}, {-1}} {
		if office.ProveQuote(paper, quotation, kept, places) {
			t.Fatalf("ProveQuote of %q from %q with %q at %v", quotation, paper, kept, places)
		}
	}
}

// P5.6: the examples of the chapter, and others.
func TestP5_6Quote(t *testing.T) {
	pay := "we shall not pay you today"
	for _, x := range []struct {
		paper, quotation, kept string
		want                   []int
	}{
		{pay, "we ... pay [them] today", "", []int{0, 3, 4, 5}}, {pay, "we ... pay [them] today", "not", nil}, {pay, "we ... not pay", "not", []int{0, 2, 3}}, {pay, "we ... pay", "shall", nil},
		// Side by side, or with a gap; a gap may leave out nothing.
		{"a b c", "a b", "", []int{0, 1}}, {"a b c", "a c", "", nil}, {"a b c", "a ... c", "", []int{0, 2}}, {"a b c", "a ... b", "", []int{0, 1}}, {"a b c", "a ... ... c", "", []int{0, 2}}, {"a b c", "c", "", []int{2}}, {"a b c", "a b c", "", []int{0, 1, 2}}, {"a", "a", "", []int{0}}, {"a", "b", "", nil}, {"a b c", "b a", "", nil}, {"a b c", "b ... a", "", nil}, {"a b", "a a", "", nil}, {"a b", "a ... a", "", nil}, {"a b", "b [x]", "", nil}, {"a b", "a b ...  c", "", nil},
		// What follows decides where the first text is.
		{"a b a c", "a c", "", []int{2, 3}}, {"a b a c", "a ... c", "", []int{0, 3}}, {"a b a c a b", "a ... b", "", []int{0, 1}}, {"a c a b a", "a b ... a", "", []int{2, 3, 4}}, {"a b c a b d", "a b ... [x]", "", []int{0, 1, 2}},
		// Gaps at both ends say nothing.
		{"a b c", "... b ...", "a c", []int{1}}, {"a b c", "... ... b", "a b c", []int{1}}, {"a b c", "b ... ...", "c", []int{1}},
		// What is kept may stand at a place, or outside of all.
		{"a k b", "a ... b", "k", nil}, {"a k b", "a k b", "k", []int{0, 1, 2}}, {"a k b", "a [x] b", "k", []int{0, 1, 2}}, {"a k b", "a [x] ... b", "k", []int{0, 1, 2}}, {"k a b k", "a ... b", "k", []int{1, 2}}, {"a a b", "a ... b", "a", []int{1, 2}}, {"a b b", "a ... b", "b", []int{0, 1}}, {"a c b d b", "a ... b ... b", "d", nil}, {"a d b c b", "a ... b ... b", "d", nil}, {"a k a c b", "a ... b", "k", []int{2, 4}}, {"a c k b", "a ... b", "k b", nil}, {"a c b", "a ... b", "k l", []int{0, 2}}, {"a c b", "a ... b", "c c", nil}, {"a k b c", "a ... [x] ... c", "k", []int{0, 1, 3}}, {"a c k b d", "a ... [x] ... d", "k", []int{0, 2, 4}},
		// A remark is for any text; also for one that looks like it or like a gap.
		{"a b", "[x]", "", []int{0}}, {"a b", "[x] [y]", "", []int{0, 1}}, {"a b", "[x] [y] [z]", "", nil}, {"a b", "a [a]", "", []int{0, 1}}, {"b [x] a", "[x] a", "", []int{1, 2}}, {"b [x] a", "[y] [x] a", "", []int{0, 1, 2}}, {"a ... b", "a [x] b", "...", []int{0, 1, 2}}, {"a ... b", "a ... b", "", []int{0, 2}}, {"a ... b", "a ... b", "...", nil}, {"... b", "b", "", []int{1}}, {"a [x] b", "a ... b", "[x]", nil}, {"a [x] b", "a ... b", "[y]", []int{0, 2}}, {"a [ b", "a [[] b", "", []int{0, 1, 2}}, {"a b", "[]]", "", []int{0}}, {"a b", "[...]", "", []int{0}},
		// What is almost a remark or a gap is a quoted word.
		{"a b", "[]", "", nil}, {"a []", "[]", "", []int{1}}, {"a b", "[x", "", nil}, {"a [x", "[x", "", []int{1}}, {"a x]", "x]", "", []int{1}}, {"a b", "x]", "", nil}, {"a b", "[", "", nil}, {"a ] [", "]", "", []int{1}}, {"a b", "a .. b", "", nil}, {"a .. b", "a .. b", "", []int{0, 1, 2}}, {"a .... b", "a ....", "", []int{0, 1}}, {"a b", "a .... b", "", nil}, {"a . b", "a . b", ".", []int{0, 1, 2}}, {"a b", "[x]. b", "", nil},
		// Texts are the same byte by byte.
		{"A a", "a", "", []int{1}}, {"ab a", "a", "", []int{1}}, {"a K b", "a ... b", "k", []int{0, 2}},
	} {
		holdQuote(t, words(x.paper), words(x.quotation), words(x.kept), x.want)
	}
}

// P5.6: all small papers and quotations, and all places.
func TestP5_6AllSmallQuotations(t *testing.T) {
	papers, quotations := allTexts(4, "a", "b"), allTexts(4, "a", "b", "...", "[x]")
	fit, none, later := 0, 0, 0
	for _, paper := range papers {
		for _, quotation := range quotations {
			count := len(withPlaces(quotation))
			for _, kept := range [][]string{nil, {"a"}, {"b"}} {
				if count == 0 {
					holdNoQuote(t, paper, quotation, kept)
					continue
				}
				all := holdFirst(t, paper, quotation, kept)
				if len(all) == 0 {
					none++
					continue
				}
				fit++
				if all[0][0] > 0 {
					later++
				}
			}
		}
	}
	if fit < 9000 || none < 10000 || later < 1000 {
		t.Errorf("%d fit, %d of them later; %d do not", fit, later, none)
	}
}

// allTexts returns all lists of 1 to so many texts of the alphabet.
func allTexts(most int, alphabet ...string) [][]string {
	lists := [][]string{{}}
	for from := 0; len(lists[from]) < most; from++ {
		for _, text := range alphabet {
			lists = append(lists, append(slices.Clip(lists[from]), text))
		}
	}
	return lists[1:]
}

// P5.6: longer papers.
func TestP5_6QuotationsOfMany(t *testing.T) {
	d := dice(6)
	fit, none, choice := 0, 0, 0
	for range 6000 {
		paper := d.texts(d.roll(1, 9), "a", "b", "c", "d")
		quotation := d.quotation(paper)
		kept := d.texts(d.roll(0, 3), "a", "b", "c", "d", "e", "...")
		all := holdFirst(t, paper, quotation, kept)
		if len(all) == 0 {
			none++
			continue
		}
		fit++
		if len(all) > 1 {
			choice++
		}
	}
	if fit < 2000 || none < 500 || choice < 1000 {
		t.Errorf("%d fit, %d of them at several places; %d do not", fit, choice, none)
	}
}

// P5.6: as much as there may be of all things, also where much has to be tried.
func TestP5_6LargeQuotations(t *testing.T) {
	start := time.Now()
	repeat := func(n int, texts ...string) []string { return slices.Repeat(texts, n) }
	from := func(first, count int) []int {
		var l []int
		for i := range count {
			l = append(l, first+i)
		}
		return l
	}
	var everySecond []int
	for i := range 40 {
		everySecond = append(everySecond, 2*i+1)
	}
	long := strings.Repeat("~", api.MaxWord)
	as := repeat(80, "a")
	holdQuote(t, as, as, as[:20], from(0, 80))
	holdQuote(t, repeat(80, long), repeat(80, long), repeat(20, long), from(0, 80))
	holdQuote(t, as, as[:79], nil, from(0, 79))
	holdQuote(t, as, repeat(80, "[a]"), nil, from(0, 80))
	holdQuote(t, as, repeat(40, "a", "..."), nil, from(0, 40))
	holdQuote(t, as, append(repeat(39, "a", "..."), "b"), nil, nil)
	holdQuote(t, append(repeat(40, "a", "b"), "x")[1:], append(repeat(39, "[x]", "..."), "x"), nil, append(from(0, 39), 79))
	holdQuote(t, append(repeat(40, "b", "a")[:79], "x"), append(repeat(39, "a", "..."), "x"), nil, everySecond)
	holdQuote(t, append(repeat(40, "b", "a")[:79], "x"), append(repeat(38, "a", "..."), "a", "x"), nil, nil)
	holdQuote(t, repeat(40, "a", "b"), append(repeat(26, "a", "[x]", "..."), "a", "a"), nil, nil)
	holdQuote(t, append(repeat(79, "a"), "b"), append(repeat(39, "..."), append(repeat(39, "a"), "b")...), nil, from(40, 40))
	if spent := time.Since(start); spent > 5*time.Second {
		t.Errorf("it took %v", spent)
	}
}

// P5.6: which places the quotation fits.
func TestP5_6ProveQuote(t *testing.T) {
	for _, x := range []struct {
		paper, quotation, kept string
		places                 []int
		want                   bool
	}{
		{"we shall not pay you today", "we ... pay [them] today", "", []int{0, 3, 4, 5}, true}, {"we shall not pay you today", "we ... pay [them] today", "not", []int{0, 3, 4, 5}, false}, {"we shall not pay you today", "we ... pay [them] today", "", []int{0, 3, 5, 4}, false},
		{"a b a b", "a b", "", []int{0, 1}, true}, {"a b a b", "a b", "", []int{2, 3}, true}, {"a b a b", "a b", "", []int{0, 3}, false}, {"a b a b", "a ... b", "", []int{0, 3}, true}, {"a b a b", "a ... b", "", []int{2, 1}, false}, {"a b a b", "a ... a", "", []int{0, 0}, false}, {"a b a b", "a ... a", "", []int{2, 0}, false}, {"a b a b", "a b", "", []int{1, 2}, false},
		{"a b a b", "a", "", []int{2}, true}, {"a b a b", "a", "", []int{1}, false}, {"a b a b", "a", "", []int{-1}, false}, {"a b a b", "a", "", []int{4}, false}, {"a b a b", "a", "", nil, false}, {"a b a b", "a", "", []int{0, 2}, false}, {"a b a b", "a", "", []int{math.MinInt}, false}, {"a b a b", "a", "", []int{math.MaxInt}, false},
		{"a b a b", "[x]", "", []int{3}, true}, {"a b a b", "[x]", "", []int{4}, false}, {"a b a b", "[x] [y]", "", []int{3, 4}, false}, {"a b a b", "[x] [y]", "", []int{-1, 0}, false}, {"a b a b", "[x] ... [y]", "", []int{0, math.MaxInt}, false}, {"a b a b", "[x] [y]", "", []int{math.MaxInt, math.MinInt}, false}, {"a b a b", "[x] ... [y]", "", []int{math.MinInt, 0}, false},
		{"a b a b", "[x] ... [y]", "", []int{0, 3}, true}, {"a b a b", "[x] ... [y]", "b", []int{0, 3}, false}, {"a b a b", "[x] ... [y]", "b", []int{0, 1}, true}, {"a b a b", "[x] ... [y]", "b", []int{1, 3}, true}, {"a b a b", "... [y] ...", "a b", []int{1}, true}, {"a b a b", "... [y] ...", "", []int{0, 1}, false}, {"a b a b", "...", "", nil, false}, {"a b a b", "...", "", []int{0}, false},
	} {
		if office.ProveQuote(words(x.paper), words(x.quotation), words(x.kept), x.places) != x.want {
			t.Errorf("ProveQuote of %q from %q with %q at %v", x.quotation, x.paper, x.kept, x.places)
		}
	}
	if office.ProveQuote(words("a a"), words("a a"), nil, slices.Repeat([]int{0}, 1000)) {
		t.Errorf("ProveQuote at 1000 places")
	}
}

// P5.6: all lists of places, rising or not.
func TestP5_6ProveQuoteOfMany(t *testing.T) {
	d := dice(66)
	right, wrong := 0, 0
	for range 600 {
		paper := d.texts(d.roll(1, 5), "a", "b", "c")
		quotation := d.quotation(paper)
		kept := d.texts(d.roll(0, 2), "a", "b", "c")
		for _, places := range allPlaces(min(len(withPlaces(quotation)), 4), len(paper)) {
			want := fitsAt(paper, quotation, kept, places)
			if office.ProveQuote(paper, quotation, kept, places) != want {
				t.Fatalf("ProveQuote of %q from %q with %q at %v: not %v", quotation, paper, kept, places, want)
			}
			if want {
				right++
			} else {
				wrong++
			}
		}
	}
	if right < 500 || wrong < 50000 {
		t.Errorf("%d are right, %d are not", right, wrong)
	}
}

// allPlaces returns all lists of so many places, from -1 to the limit.
func allPlaces(many, limit int) [][]int {
	lists := [][]int{{}}
	for range many {
		var longer [][]int
		for _, l := range lists {
			for place := -1; place <= limit; place++ {
				longer = append(longer, append(slices.Clip(l), place))
			}
		}
		lists = longer
	}
	return lists
}

// P5.6: what is no paper, no quotation, or not Kept.
func TestP5_6QuoteArg(t *testing.T) {
	a := words("a b")
	for _, text := range []string{"", " ", "a b", "a\x00", "a\x1f", "\x7f", "\x80", "\xff", "é", "a\n", strings.Repeat("a", api.MaxWord+1)} {
		for _, l := range [][]string{{text}, {"a", "b", text}, {text, "..."}} {
			holdNoQuote(t, l, a, nil)
			holdNoQuote(t, a, l, nil)
			holdNoQuote(t, a, a, l)
		}
	}
	for _, text := range []string{"!", "~", strings.Repeat("!", api.MaxWord)} {
		holdQuote(t, []string{text}, []string{text}, []string{text}, []int{0})
	}
	many := slices.Repeat([]string{"a"}, 1000)
	for _, l := range [][3][]string{
		{nil, a, nil}, {{}, a, nil}, {many[:81], a, nil}, {many, many, nil},
		{a, nil, nil}, {a, {}, nil}, {a, words("..."), nil}, {a, words("... ..."), a}, {a, many[:81], nil}, {a, append(slices.Repeat([]string{"..."}, 80), "a"), nil}, {a, slices.Repeat([]string{"..."}, 80), nil},
		{a, a, many[:21]}, {a, a, many}, {nil, nil, nil},
	} {
		holdNoQuote(t, l[0], l[1], l[2])
	}
	// What does not fit either.
	holdNoQuote(t, a, words("c"), many[:21])
	holdQuote(t, a, words("c"), many[:20], nil)
	holdQuote(t, a, append(slices.Repeat([]string{"..."}, 79), "a"), nil, []int{0})
}
