package floor_test

import (
	"fmt"

	"palantype/floor"
)

func ExampleWho() {
	const nobody = floor.Nobody
	s := floor.Scene{Persons: 3, Least: 2, Most: 3, Short: 1, Moments: []floor.Moment{
		{Floor: 0b011, Heard: 0b011},
		{Floor: 0b011, Heard: 0b100},
		{Floor: 0b011, Heard: 0b001},
		{Floor: 0b010 | nobody, Heard: 0b010 | nobody},
		{Floor: 0b010, Heard: 0b110},
	}}
	told, e := floor.Who(s)
	if e != 0 {
		fmt.Println(e)
		return
	}
	for _, x := range told {
		fmt.Printf("%016b %016b\n", x.Floor, x.Heard)
	}
	held, _ := floor.Held(s, 1)
	fmt.Println("1 held the floor for", held.Lo, "to", held.Hi, "moments")
	// Output:
	// 0000000000000001 0000000000000001
	// 0000000000000001 0000000000000100
	// 0000000000000001 0000000000000001
	// 1000000000000010 1000000000000010
	// 0000000000000010 0000000000000110
	// 1 held the floor for 1 to 2 moments
}
