package tongue_test

import (
	"fmt"

	"palantype/tongue"
)

func ExampleMatch() {
	left := []tongue.Sentence{{Marks: []int{4, 7}, Size: 10}, {Marks: []int{9}, Size: 5}, {Size: 8}}
	right := []tongue.Sentence{{Marks: []int{4}, Size: 6}, {Marks: []int{7, 9}, Size: 9}, {Size: 7}}
	steps, cost, e := tongue.Match(left, right)
	fmt.Println(steps, cost, e == 0)
	// The table proves that no match costs less.
	table, _ := tongue.Proof(left, right)
	fmt.Println(table, tongue.ProveCost(left, right, cost, table))
	// The mark 7 is in the first sentence on the left, and in the second one on the
	// right; so both steps are differences, and the Leads say which text counts.
	differences, _ := tongue.Differences(left, right, steps)
	pieces, _ := tongue.Counts(left, right, steps, []bool{true, false, true})
	fmt.Println(differences, pieces)
	begins, lines, blank, _ := tongue.Level(left, right, steps)
	fmt.Println(begins, lines, blank)
	// No step takes two and two.
	_, e = tongue.Cost(left, right, []tongue.Step{{Left: 2, Right: 2}, {Left: 1, Right: 1}})
	fmt.Println(e)
	// Output:
	// [{1 1} {1 1} {1 1}] 4 true
	// [[0 5 12 15] [7 2 3 6] [12 5 4 5] [15 8 5 4]] true
	// [0 1] [{0 0} {1 1} {0 2}]
	// [0 10 19] 27 9
	// fault 9
}

func ExampleTerms() {
	bill := tongue.Term{Mark: 1, Left: "bill", Right: "projet"}
	act := tongue.Term{Mark: 2, Left: "act", Right: "loi"}
	fmt.Println(tongue.Terms([]tongue.Term{bill, act, bill}) == 0)
	fmt.Println(tongue.Terms([]tongue.Term{bill, act, {Mark: 3, Left: "law", Right: "loi"}}))
	// Output:
	// true
	// fault 6
}

func ExampleBehind() {
	speech := tongue.Speech{Starts: []int{0, 10, 14}, Lag: 3, Needs: []tongue.Range{{Lo: 4, Hi: 6}, {Lo: 5, Hi: 8}, {Lo: 2, Hi: 3}}}
	for _, most := range []int{9, 10} {
		times, keeps, e := tongue.Behind(speech, most)
		fmt.Println(times, keeps, e == 0)
	}
	// Output:
	// [{7 9} {18 21} {20 24}] false true
	// [{7 9} {18 21} {20 24}] true true
}
