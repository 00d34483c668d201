package paper_test

import (
	"fmt"
	"strings"

	"palantype/paper"
)

func ExampleText() {
	m := paper.Motion{
		Words: strings.Fields("this House notes the report"),
		Papers: []paper.Paper{
			{Number: 3, From: 2, To: 3, Words: strings.Fields("welcomes with regret")},
			{Number: 5, Of: 3, From: 2, To: 3, Words: []string{"joy"}},
			{Number: 9, From: 3, To: 5, Words: []string{"it"}},
			{Number: 2, From: 4, To: 4, Words: []string{"long"}},
		},
	}
	words, origins, e := paper.Text(m, []int{3, 5})
	fmt.Println(strings.Join(words, " "), e == 0)
	fmt.Println(origins)
	clashes, _ := paper.Clashes(m)
	order, _ := paper.Order(m)
	largest, _ := paper.Largest(m)
	fmt.Println(clashes, order, largest)
	// Two that clash are no choice.
	_, _, e = paper.Text(m, []int{2, 9})
	fmt.Println(e)
	// Output:
	// this House welcomes with joy the report true
	// [{0 0} {0 1} {3 0} {3 1} {5 0} {0 3} {0 4}]
	// [{2 9}] [5 3 9 2] [2 3 5]
	// fault 9
}

func ExampleStanding() {
	questions := []paper.Question{{Number: 1, Asked: 3, Within: 5}, {Number: 2, Asked: 9, Within: 5}}
	replies := []paper.Reply{{To: 1, Day: 8}}
	for _, day := range []int{2, 9, 15} {
		states, e := paper.Standing(questions, replies, day)
		fmt.Println(day, states, e == 0)
	}
	// Output:
	// 2 [0 0] true
	// 9 [3 1] true
	// 15 [3 2] true
}
