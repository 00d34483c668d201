package veil_test

import (
	"fmt"

	"palantype/veil"
)

func ExampleLook() {
	r := veil.Report{
		Words: []veil.Word{
			{Text: "we"}, {Text: "met"}, {Text: "the"}, {Text: "envoy", Heads: []int{3, 5}},
			{Text: "in"}, {Text: "Bern", Heads: []int{5}}, {Text: "today", Heads: []int{8}},
		},
		Orders: []veil.Order{
			{From: 3, To: 4, Kind: 1, Until: 1990},
			{From: 4, To: 6, Kind: 2, Until: 1980},
			{From: 5, To: 6, Kind: 1, Until: 1975},
		},
		Columns: 3,
	}
	for _, x := range []veil.Reader{{Year: 1970}, {Year: 1985}, {Year: 1970, May: []int{1}}} {
		view, e := veil.Look(r, x)
		index, _ := veil.Index(r, x)
		shut, _ := veil.Closed(r, x)
		fmt.Println(view, e == 0)
		fmt.Println(index, shut)
	}
	// The piece 4 shows the last word; the piece 3 is a gap.
	x := veil.Reader{Year: 1970}
	word, _ := veil.Find(r, x, 4)
	_, e := veil.Find(r, x, 3)
	fmt.Println(word, e)
	// What the order 2 hides is also hidden by the order 1.
	useless, _ := veil.Useless(r, x)
	fewest, _ := veil.Fewest(r, x)
	fmt.Println(useless, fewest)
	// Output:
	// [{we 1} {met 1} {the 1} { 2} {today 2}] true
	// [{8 [2]}] [{3 6 1990}]
	// [{we 1} {met 1} {the 1} { 2} {in 2} {Bern 2} {today 3}] true
	// [{5 [2]} {8 [3]}] [{3 4 1990}]
	// [{we 1} {met 1} {the 1} {envoy 2} { 2} {today 2}] true
	// [{3 [2]} {5 [2]} {8 [2]}] [{4 6 1980}]
	// 6 fault 7
	// [2] 2
}

func ExampleAgree() {
	short := veil.Report{
		Words:   []veil.Word{{Text: "I"}, {Text: "met"}, {Text: "Smith"}},
		Orders:  []veil.Order{{From: 2, To: 3, Until: 2000}},
		Columns: 2,
	}
	long := veil.Report{
		Words:   []veil.Word{{Text: "I"}, {Text: "met"}, {Text: "nobody"}, {Text: "there"}},
		Orders:  []veil.Order{{From: 3, To: 4, Until: 2001}, {From: 2, To: 3, Until: 2000}},
		Columns: 2,
	}
	for _, year := range []int{1999, 2000} {
		fmt.Println(veil.Agree(short, long, veil.Reader{Year: year}))
	}
	// Output:
	// true fault 0
	// false fault 0
}
