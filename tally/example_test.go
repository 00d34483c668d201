package tally_test

import (
	"fmt"

	"palantype/tally"
)

func ExampleAsk() {
	// Only one teller for the Ayes has written down 2, and only the other one 3,
	// whose proxy is given by 4.
	d := tally.Division{
		Members: 6,
		Ayes:    [2][]int{{0, 1, 2}, {0, 1, 3}},
		Noes:    [2][]int{{4, 5}, {4, 5}},
		Proxies: []tally.Proxy{{Holder: 4, For: 3}},
		Rule:    tally.Simple,
		Quorum:  3,
		Tie:     tally.No,
	}
	doubts, e := tally.Doubts(d)
	fmt.Println(doubts, e == 0)
	ayes, noes, _ := tally.Bounds(d)
	fmt.Println(ayes, noes)
	// It is lost or carried; if 3 voted, it is carried.
	allowed, _ := tally.Allowed(d)
	witness, _ := tally.Witness(d, tally.Carried)
	fmt.Println(allowed, witness)
	_, e = tally.Witness(d, tally.Void)
	fmt.Println(e)
	n, outcome, _ := tally.Count(d, []uint8{tally.Aye, tally.Aye, tally.Aye, tally.None, tally.No, tally.No})
	fmt.Println(n, outcome == tally.Lost)
	// To ask 3 is enough, and to ask 2 is not.
	question, _ := tally.Ask(d)
	fmt.Println(question, tally.ProveAsk(d, []int{2, 3}), tally.ProveAsk(d, []int{2}))
	// Output:
	// [2 3] true
	// {2 4} {2 3}
	// [0 1] [1 1 0 1 2 2]
	// fault 7
	// {3 3} true
	// [3] true false
}

func ExampleClash() {
	d := tally.Division{Members: 3, Ayes: [2][]int{{0, 1}, {1}}, Noes: [2][]int{{1, 2}, {1, 2}}, Tie: tally.Aye}
	member, e := tally.Clash(d)
	fmt.Println(member, e == 0)
	_, e = tally.Allowed(d)
	fmt.Println(e)
	// Output:
	// 1 true
	// fault 9
}
