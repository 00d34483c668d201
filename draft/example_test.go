package draft_test

import (
	"fmt"

	"palantype/draft"
)

func ExamplePlay() {
	d := draft.Draft{Words: []draft.Word{
		{Text: "the", Second: 1, Reporter: 7},
		{Text: "honourable", Second: 1, Reporter: 7},
		{Text: "member", Second: 2, Reporter: 7},
		{Text: "er", Second: 3, Reporter: 7},
		{Text: "says", Second: 4, Reporter: 7},
		{Text: "no", Second: 5, Reporter: 7},
	}, Kept: []int{5}}
	// A style does the first changes, a hand the next one.
	steps, e := draft.Style(d, []draft.Rule{
		{Find: []string{"er"}},
		{Find: []string{"honourable", "member"}, Put: []string{"Member"}},
	})
	if e != 0 {
		fmt.Println(e)
		return
	}
	steps = append(steps, draft.Step{At: 3, Put: []string{"that"}})
	items, live, _, _ := draft.Play(d, steps)
	traces, lost, _ := draft.Traces(d, steps)
	for i, x := range items {
		fmt.Println(x.Text, traces[i].Sources)
	}
	fmt.Println("live:", live, "lost:", lost)

	back, _, _, _ := draft.Play(d, append(steps, draft.Step{Undo: 1}))
	for i, x := range back {
		if i > 0 {
			fmt.Print(" ")
		}
		fmt.Print(x.Text)
	}
	fmt.Println()
	_, _, step, e := draft.Play(d, append(steps, draft.Step{At: 4, Cut: 1}))
	fmt.Println("step", step, e)
	// Output:
	// the [0]
	// Member [1 2]
	// says [4]
	// that []
	// no [5]
	// live: [1 2 3] lost: [3]
	// the Member er says that no
	// step 3 fault 9
}
