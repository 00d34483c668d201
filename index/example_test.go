package index_test

import (
	"fmt"

	"palantype/index"
)

func Example() {
	first := []index.Heading{
		{Name: "Corn Laws", Also: []string{"Trade"}, Places: []index.Place{{Volume: 3, From: 12, To: 14}, {Volume: 4, From: 1, To: 1}}},
		{Name: "Lee Ann", Variants: []string{"A Lee"}, Places: []index.Place{{Volume: 3, From: 7, To: 7}}},
		{Name: "Trade", Places: []index.Place{{Volume: 3, From: 13, To: 13}}},
	}
	second := []index.Heading{
		{Name: "A Lee", Variants: []string{"Lady Lee"}, Places: []index.Place{{Volume: 9, From: 1, To: 2}}},
		{Name: "Corn laws", Variants: []string{"Corn Laws"}, Places: []index.Place{{Volume: 4, From: 2, To: 2}}},
	}
	fmt.Println(index.Before("Corn Laws", "Corn laws"), index.Before("Corn laws", "CornLawz"), index.Before("Lee Ann", "A Lee"))
	joined, e := index.Join([][]index.Heading{first, second})
	fmt.Println(len(joined), e)
	// In the other order they make the same.
	same, _ := index.Join([][]index.Heading{second, first})
	file, _ := index.Write(same)
	fmt.Print(string(file))
	read, e := index.Read(file)
	fmt.Println(len(read), e)
	fmt.Println(index.Lead(joined, "Lady Lee"))
	fmt.Println(index.Under(joined, 3, 13))
	fmt.Println(index.Related(joined, "Corn laws", 1))
	fmt.Println(index.Related(joined, "Poor law", 1))
	fmt.Println(index.CheckIndex(append(second, index.Heading{Name: "Lady Lee"})))
	// Output:
	// true true false
	// 3 fault 0
	// A Lee: 3/7, 9/1-2
	// Corn Laws: 3/12-14, 4/1-2; Trade
	// Corn laws = Corn Laws
	// Lady Lee = A Lee
	// Lee Ann = A Lee
	// Trade: 3/13
	// 3 fault 0
	// {A Lee [Lady Lee Lee Ann] [] [{3 7 7} {9 1 2}]} fault 0
	// [Corn Laws Trade] fault 0
	// [Corn Laws Trade] fault 0
	// [] fault 7
	// fault 6
}
