package volume_test

import (
	"fmt"

	"palantype/volume"
)

func Example() {
	v := volume.Volume{
		Number: 3, Bound: 50, Height: 3, Width: 10,
		Parts: []volume.Part{
			{Day: 40, Paragraphs: []volume.Paragraph{{Anchor: 11, Text: "The House met at two."}, {Anchor: 12, Text: "Prayers."}}},
			{Day: 44, Paragraphs: []volume.Paragraph{{Anchor: 15, Text: "A bill was read."}}},
		},
	}
	errata, e := volume.Merge(
		[]volume.Erratum{{Number: 3, Day: 60, Kind: volume.Add, Anchor: 11, New: 20, Text: "The Speaker took the chair."}, {Number: 2, Day: 60, Kind: volume.Remove, Anchor: 11}},
		[]volume.Erratum{{Number: 1, Day: 45, Kind: volume.Change, Anchor: 12, Text: "Prayers were said."}, {Number: 2, Day: 60, Kind: volume.Remove, Anchor: 11}},
	)
	fmt.Println(len(errata), e)
	for _, day := range []int{44, 60} {
		paragraphs, _ := volume.Read(v, errata, day)
		fmt.Println(day, paragraphs)
	}
	// What is issued behind the day 50 does not change the print.
	places, _ := volume.Print(v, errata)
	fmt.Println(places)
	fmt.Println(volume.Find(v, errata, 11, 60))
	fmt.Println(volume.Find(v, errata, 20, 59))
	for _, style := range []uint8{volume.Column, volume.Numbered, volume.Anchored} {
		cite, _ := volume.Cite(v, errata, 12, style, 44)
		anchor, day, _ := volume.Resolve(v, errata, cite)
		fmt.Printf("%s: %d after %d\n", cite, anchor, day)
	}
	fmt.Println(volume.Resolve(v, errata, "vol. 3, col. 1, l. 3"))
	fmt.Println(volume.Resolve(v, errata, "vol. 3, col. 1, l. 4"))
	fmt.Println(volume.Resolve(v, errata, "vol. 3, col. 1"))
	// Output:
	// 3 fault 0
	// 44 [{11 The House met at two.} {12 Prayers.} {15 A bill was read.}]
	// 60 [{20 The Speaker took the chair.} {12 Prayers were said.} {15 A bill was read.}]
	// [{11 1 1 3} {12 2 1 2} {15 3 1 2}]
	// The House met at two. true fault 0
	//  false fault 7
	// vol. 3, col. 2, l. 1: 12 after 50
	// vol. 3, 40, par. 2: 12 after 50
	// 12@44: 12 after 44
	// 11 50 fault 0
	// 0 0 fault 7
	// 0 0 fault 4
}
