package office_test

import (
	"fmt"

	"palantype/office"
)

func ExampleHolds() {
	roll := office.Roll{
		Persons: 2, Offices: 1,
		Terms: []office.Term{
			{Person: 0, From: office.Range{Lo: 100, Hi: 110}, To: office.Range{Lo: 200, Hi: 220}},
			{Person: 1, From: office.Range{Lo: 190, Hi: 230}, To: office.Range{Lo: 300, Hi: 300}},
		},
		Names: []office.Called{{Person: 0, Day: 0, Text: "Ann Lee"}, {Person: 0, Day: 250, Text: "Lady Lee"}},
	}
	known, e := office.Learn(roll)
	fmt.Println(known, e == 0)
	for _, day := range []int{150, 210} {
		surely, perhaps, vacant, _ := office.Holds(roll, 0, day)
		fmt.Println(day, surely, perhaps, vacant)
	}
	styles, _ := office.Styles(roll, 1, 210)
	name, _ := office.Call(roll, 0, 249)
	fmt.Println(styles, name)
	// Output:
	// [{{100 110} {200 220}} {{200 230} {300 300}}] true
	// 150 0 [0] false
	// 210 -1 [0 1] true
	// [-1 0] Ann Lee
}

func ExampleQuote() {
	paper := []string{"we", "shall", "not", "pay", "you", "today"}
	quotation := []string{"we", "...", "pay", "[them]", "today"}
	places, e := office.Quote(paper, quotation, nil)
	fmt.Println(places, e == 0)
	// What says no may not be left out.
	places, e = office.Quote(paper, quotation, []string{"not"})
	fmt.Println(places, e)
	fmt.Println(office.ProveQuote(paper, quotation, nil, []int{0, 3, 4, 5}))
	// Output:
	// [0 3 4 5] true
	// [] fault 7
	// true
}
