package desk_test

import (
	"fmt"

	"palantype/desk"
)

func Example() {
	lines := []string{
		"house 5",
		"say 11 The House met.",
		"move this House notes the report",
		"paper 3 0 2 3 welcomes",
		"adopt 3",
		"divide 0 0 3 2",
		"tell 1 0 0", "tell 1 1 0", "tell 1 0 1", "tell 1 1 1", "tell 2 0 4",
		"result", // which is not sure yet: only one teller has the member 4
		"tell 2 1 4",
		"result",
		"order 12",
		"bind 3 4 20",
		"hide 11 2 1990",
		"cite 12 0",
	}
	state, errors, e := desk.Run(lines)
	fmt.Println(state.Results, state.Cites, e)
	fmt.Println(errors[10:14])
	fmt.Println(desk.Bars(lines, 11))
	fmt.Println(desk.Shown(lines, 1980, nil))
	fmt.Println(desk.Shown(lines, 1980, []int{2}))
	report, _ := desk.Report(lines)
	fmt.Print(report)
	// A stop in the midst of a record; what is lost is done once more.
	sheets, _ := desk.Write(lines[:14])
	left := sheets[:len(sheets)-3]
	recovered, read := desk.Recover(left)
	fmt.Println(len(recovered), read, len(left))
	resumed, e := desk.Resume(left, lines[13:])
	fmt.Println(len(resumed), e)
	first, _ := desk.Write([]string{"a"})
	fmt.Printf("%q\n", first)
	// Output:
	// [1] [vol. 3, col. 1, l. 2] fault 0
	// [fault 0 fault 10 fault 0 fault 0]
	// [10] fault 0
	// [* 12] fault 0
	// [11 12] fault 0
	// day 0 house 5
	// volume 3 errata 0
	// 11 1.1 1
	// 12 1.2 2
	// carried
	// vol. 3, col. 1, l. 2
	// 13 390 410
	// 523 fault 0
	// "[00017776000643]a\n"
}
