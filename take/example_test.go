package take_test

import (
	"fmt"

	"palantype/take"
)

func ExampleRota() {
	s := take.Sitting{Length: 1000, Pauses: []take.Span{{From: 400, To: 500}}, Long: 180, Short: 60}
	o := take.Office{Due: 400, Delay: 30, Crew: []take.Reporter{
		{Slow: take.Range{Lo: 0, Hi: 1}, Rest: 60},
		{Slow: take.Range{Lo: 1, Hi: 2}},
		{Slow: take.Range{Lo: 0, Hi: 1}, Rest: 300},
	}}
	takes, _ := take.Takes(s)
	rota, e := take.Rota(s, o)
	if e != 0 {
		fmt.Println(e)
		return
	}
	for i, t := range takes {
		fmt.Println(t.From, t.To, "reporter", rota[i])
	}
	// Output:
	// 0 180 reporter 1
	// 180 400 reporter 0
	// 500 680 reporter 2
	// 680 860 reporter 1
	// 860 1000 reporter 0
}
