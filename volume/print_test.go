package volume_test

import (
	"slices"
	"strings"
	"testing"

	"palantype/api"
	"palantype/volume"
)

// holdPrint holds that Print returns these places.
func holdPrint(t *testing.T, v volume.Volume, l []volume.Erratum, want ...volume.Place) {
	t.Helper()
	if list, e := volume.Print(v, l); !slices.Equal(list, want) || e != api.OK {
		t.Fatalf("Print of %v, %v: %v, %v, not %v", v, l, list, e, want)
	}
}

// P10.3: the examples of the chapter and of the document.
func TestP10_3PrintExamples(t *testing.T) {
	want := []volume.Place{place(11, 1, 1, 3), place(12, 2, 1, 2), place(15, 3, 1, 2)}
	holdPrint(t, third(), amends(), want...)
	holdPrint(t, third(), amends()[:1], want...)
	holdPrint(t, third(), nil, place(11, 1, 1, 3), place(12, 2, 1, 1), place(15, 3, 1, 2))
	// What is issued behind Bound changes none of the columns; on that day it does.
	late := third()
	late.Bound = 59
	holdPrint(t, late, amends(), want...)
	late.Bound = 60
	holdPrint(t, late, amends(), place(20, 1, 1, 3), place(12, 2, 1, 2), place(15, 3, 1, 2))
}

// lined is a volume with parts of paragraphs that have so many lines each, with the
// anchors 1, 2, 3 ..
func lined(height int, parts ...[]int) volume.Volume {
	v := bound(1, 20, height, 10)
	anchor := 0
	for day, lines := range parts {
		p := part(day)
		for _, n := range lines {
			anchor++
			p.Paragraphs = append(p.Paragraphs, says(anchor, strings.Repeat("x", 10*n)))
		}
		v.Parts = append(v.Parts, p)
	}
	return v
}

// P10.3: columns and parts.
func TestP10_3Print(t *testing.T) {
	for _, x := range []struct {
		v    volume.Volume
		want []volume.Place
	}{
		{lined(3), nil},
		{lined(3, nil, nil), nil},
		{lined(3, []int{1}), []volume.Place{place(1, 1, 1, 1)}},
		{lined(1, []int{1, 1, 2, 1}), []volume.Place{place(1, 1, 1, 1), place(2, 2, 1, 1), place(3, 3, 1, 2), place(4, 5, 1, 1)}},
		{lined(3, []int{1, 1, 1, 1}), []volume.Place{place(1, 1, 1, 1), place(2, 1, 2, 1), place(3, 1, 3, 1), place(4, 2, 1, 1)}},
		{lined(3, []int{2, 2, 2, 1}), []volume.Place{place(1, 1, 1, 2), place(2, 1, 3, 2), place(3, 2, 2, 2), place(4, 3, 1, 1)}},
		{lined(3, []int{7, 1}), []volume.Place{place(1, 1, 1, 7), place(2, 3, 2, 1)}},
		{lined(60, []int{20, 20, 20, 1}), []volume.Place{place(1, 1, 1, 20), place(2, 1, 21, 20), place(3, 1, 41, 20), place(4, 2, 1, 1)}},
		// Each part begins a new column, also if the last one is full; one without
		// lines has none.
		{lined(3, []int{1}, []int{1}), []volume.Place{place(1, 1, 1, 1), place(2, 2, 1, 1)}},
		{lined(3, []int{3}, []int{1}), []volume.Place{place(1, 1, 1, 3), place(2, 2, 1, 1)}},
		{lined(3, []int{4}, []int{1}), []volume.Place{place(1, 1, 1, 4), place(2, 3, 1, 1)}},
		{lined(3, []int{6}, []int{1}), []volume.Place{place(1, 1, 1, 6), place(2, 3, 1, 1)}},
		{lined(3, nil, []int{1, 1}, nil, nil, []int{2}, nil), []volume.Place{place(1, 1, 1, 1), place(2, 1, 2, 1), place(3, 2, 1, 2)}},
		{lined(2, []int{1, 1}, []int{1, 1}, []int{1, 1}, []int{1, 1}, []int{1, 1}, []int{1, 1}), []volume.Place{
			place(1, 1, 1, 1), place(2, 1, 2, 1), place(3, 2, 1, 1), place(4, 2, 2, 1), place(5, 3, 1, 1), place(6, 3, 2, 1),
			place(7, 4, 1, 1), place(8, 4, 2, 1), place(9, 5, 1, 1), place(10, 5, 2, 1), place(11, 6, 1, 1), place(12, 6, 2, 1)}},
	} {
		holdPrint(t, x.v, nil, x.want...)
		holdAll(t, x.v, nil)
	}
}

// P10.3: bytes of a text, divided by Width, rounded up.
func TestP10_3PrintLines(t *testing.T) {
	for width := 10; width <= 80; width++ {
		for length := 1; length <= 200; length++ {
			lines := 1
			for lines*width < length {
				lines++
			}
			v := bound(1, 0, 60, width, part(0, says(1, strings.Repeat(" ", length)), says(2, "x")))
			holdPrint(t, v, nil, place(1, 1, 1, lines), place(2, 1, lines+1, 1))
		}
	}
}

// P10.3: what errata do to the print.
func TestP10_3PrintErrata(t *testing.T) {
	v := lined(3, []int{2, 2}, []int{1})
	two := strings.Repeat("y", 11)
	for _, x := range []struct {
		l    []volume.Erratum
		want []volume.Place
	}{
		{nil, []volume.Place{place(1, 1, 1, 2), place(2, 1, 3, 2), place(3, 3, 1, 1)}},
		{[]volume.Erratum{change(1, 20, 1, "y")}, []volume.Place{place(1, 1, 1, 1), place(2, 1, 2, 2), place(3, 2, 1, 1)}},
		{[]volume.Erratum{remove(1, 20, 1)}, []volume.Place{place(2, 1, 1, 2), place(3, 2, 1, 1)}},
		{[]volume.Erratum{remove(1, 20, 1), remove(2, 20, 2)}, []volume.Place{place(3, 1, 1, 1)}},
		{[]volume.Erratum{remove(1, 20, 3)}, []volume.Place{place(1, 1, 1, 2), place(2, 1, 3, 2)}},
		{[]volume.Erratum{remove(1, 20, 1), remove(2, 20, 2), remove(3, 20, 3)}, nil},
		{[]volume.Erratum{add(1, 20, 1, 9, two)}, []volume.Place{place(1, 1, 1, 2), place(9, 1, 3, 2), place(2, 2, 2, 2), place(3, 3, 1, 1)}},
		{[]volume.Erratum{remove(1, 20, 3), add(2, 20, 3, 9, two)}, []volume.Place{place(1, 1, 1, 2), place(2, 1, 3, 2), place(9, 3, 1, 2)}},
	} {
		holdPrint(t, v, x.l, x.want...)
		later := v
		later.Bound = 21
		holdPrint(t, later, x.l, x.want...)
		earlier := v
		earlier.Bound = 19
		holdPrint(t, earlier, x.l, place(1, 1, 1, 2), place(2, 1, 3, 2), place(3, 3, 1, 1))
	}
}

// P10.3: all small volumes: up to three parts, with up to two paragraphs that have
// one to three lines.
func TestP10_3PrintAllSmall(t *testing.T) {
	lists := [][]int{nil}
	for n := 1; n <= 3; n++ {
		lists = append(lists, []int{n})
		for k := 1; k <= 3; k++ {
			lists = append(lists, []int{n, k})
		}
	}
	for height := 1; height <= 4; height++ {
		for _, a := range lists {
			for _, b := range lists {
				for _, c := range lists {
					v := lined(height, a, b, c)
					holdPrint(t, v, nil, placesOf(v, nil)...)
				}
			}
		}
	}
}

// P10.3: as many paragraphs as there may be, with as many lines.
func TestP10_3PrintLargest(t *testing.T) {
	v := lined(1, slices.Repeat([]int{20}, api.MaxParagraphs))
	var l []volume.Erratum
	for i := range api.MaxErrata {
		l = append(l, add(i+1, i, i+1, 100+i, strings.Repeat("y", api.MaxParagraph)))
	}
	holdPrint(t, v, l, placesOf(v, l)...)
	list, _ := volume.Print(v, l)
	if last := list[len(list)-1]; len(list) != 50 || last != place(30, 981, 1, 20) {
		t.Fatalf("Print of the largest: %v", list)
	}
	if anchor, day, e := volume.Resolve(v, l, "vol. 1, col. 1000, l. 1"); anchor != 30 || day != 20 || e != api.OK {
		t.Fatalf("Resolve of the last line: %v, %v, %v", anchor, day, e)
	}
}

// P10.3: a volume, or errata, that are refused have no print; also if what is wrong
// would be done behind Bound.
func TestP10_3PrintRefused(t *testing.T) {
	for _, x := range []struct {
		v    volume.Volume
		l    []volume.Erratum
		want api.Errno
	}{
		{lined(0, []int{1}), nil, api.ErrArg},
		{lined(61, []int{1}), nil, api.ErrArg},
		{lined(1, []int{21}), nil, api.ErrArg},
		{lined(1, []int{0}), nil, api.ErrArg},
		{lined(1, slices.Repeat([]int{1}, 31)), nil, api.ErrLimit},
		{lined(1, nil, nil, nil, nil, nil, nil, nil), nil, api.ErrLimit},
		{third(), []volume.Erratum{change(1, 51, 12, "")}, api.ErrArg},
		{third(), []volume.Erratum{remove(1, 51, 13)}, api.ErrNone},
		{third(), []volume.Erratum{add(1, 51, 12, 11, "x")}, api.ErrTwice},
	} {
		if list, e := volume.Print(x.v, x.l); len(list) != 0 || e != x.want {
			t.Fatalf("Print of %v, %v: %v, %v, not %v", x.v, x.l, list, e, x.want)
		}
	}
}
