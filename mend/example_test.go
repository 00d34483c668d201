package mend_test

import (
	"fmt"

	"palantype/mend"
)

func ExampleVersions() {
	lexicon := mend.Lexicon{
		Numbers: []mend.Number{{Text: "ten", Value: 10}},
		Names:   [][]string{{"Smith", "Smyth"}},
		Nots:    []string{"not", "never"},
	}
	// Ten may become 12, if who said it wants it.
	swaps := []mend.Swap{{Kind: mend.KindNumber, Old: 10, New: 12}}
	report := mend.Report{
		Words: []mend.Said{{Text: "Smith", Speaker: 1}, {Text: "paid", Speaker: 1}, {Text: "ten", Speaker: 1}, {Text: "yes", Speaker: 2}},
		Out:   100, Within: 60,
	}
	requests := []mend.Request{
		{By: 1, Minute: 120, From: 1, Cut: 1, Put: []string{"has", "paid"}},
		{By: 1, Minute: 110, From: 2, Cut: 1, Put: []string{"12"}},
		{By: 2, Minute: 160, From: 3, Cut: 1, Put: []string{"not"}},
	}
	answers, e := mend.Decide(lexicon, swaps, report, requests)
	fmt.Println(answers, e == 0)
	versions, _ := mend.Versions(lexicon, swaps, report, requests)
	for _, s := range versions {
		fmt.Println(s.Old, s.New, s.Request)
	}
	trouble, _ := mend.Trouble(lexicon, swaps, []string{"not", "ten"}, []string{"Smyth", "12"})
	fmt.Println("trouble:", trouble)
	// Output:
	// [fault 0 fault 0 fault 9] true
	// [Smith] [Smith] -1
	// [paid] [has paid] 0
	// [ten] [12] 1
	// [yes] [yes] -1
	// trouble: 1
}
