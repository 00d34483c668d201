package desk_test

import (
	"fmt"
	"slices"
	"strings"
	"testing"

	"palantype/api"
	"palantype/desk"
	"palantype/paper"
	"palantype/tally"
	"palantype/volume"
)

// This file tests P12.1 word by word: what each line does, and each of its errors, in
// their order.

func TestP12_1Day(t *testing.T) {
	for lines, day := range map[string]int{"day 0": 0, "day 7": 7, "day 7;day 7": 7, "day 7;day 8;day 99999;day 99999": 99999} {
		holdState(t, split(lines), desk.State{Day: day})
	}
	holdRefused(t, nil, api.ErrRange, "day -1", "day 100000", "day 999999999", "day -999999999")
	holdRefused(t, split("day 7"), api.ErrRange, "day 6", "day 0", "day -7", "day 100000")
	holdRefused(t, split("day 99999"), api.ErrRange, "day 99998", "day 100000")
	for _, lines := range places() {
		holdAccepted(t, lines, "day 5", "day 99999")
	}
}

func TestP12_1Say(t *testing.T) {
	holdState(t, split("say 11 a"), desk.State{Volume: draft(part(0, 11, "a"))})
	holdState(t, split("say 11 a;say 3 b;say 7 c"), desk.State{Volume: draft(part(0, 11, "a", 3, "b", 7, "c"))})
	holdState(t, split("day 2;say 11 a;day 2;say 3 b;day 5;day 9;say 4 c;say 999 d"), desk.State{Day: 9, Volume: draft(part(2, 11, "a", 3, "b"), part(9, 4, "c", 999, "d"))})
	// Nothing of the draft's Number, Height and Width is in the state.
	holdState(t, split("day 99999;say 1 "+strings.Repeat("x", 200)), desk.State{Day: 99999, Volume: draft(part(99999, 1, strings.Repeat("x", 200)))})
	holdRefused(t, nil, api.ErrArg, "say 0 x", "say -1 x", "say 1000 x", "say 1 ", "say 1 \x1f", "say 1 \x7f", "say 1 "+strings.Repeat("x", 201))
	holdRefused(t, split("say 1 x;day 1;say 2 y"), api.ErrTwice, "say 1 x", "say 1 y", "say 2 y")
	holdRefused(t, split("say 1 x"), api.ErrArg, "say 1 ", "say 0 x")
	thirty := each("say %d x", 1, 30)
	holdRefused(t, thirty, api.ErrLimit, "say 31 x", "say 1 x", "say 0 x", "say 31 ")
	six := split("say 1 x;day 1;say 2 x;day 2;say 3 x;day 3;say 4 x;day 4;say 5 x;day 5;say 6 x")
	holdAccepted(t, six, "say 7 x")
	holdRefused(t, append(six, "day 6"), api.ErrLimit, "say 7 x", "say 1 x", "say 0 ")
	holdRefused(t, split("say 1 x;bind 1 1 10"), api.ErrState, "say 2 x", "say 1 x", "say 0 x", "say 2 ")
	holdRefused(t, append(thirty, "bind 1 1 10", "day 1"), api.ErrState, "say 31 x")
}

func TestP12_1Bind(t *testing.T) {
	for _, x := range [][3]int{{1, 1, 10}, {99, 60, 80}, {3, 4, 20}, {1, 60, 10}, {99, 1, 80}} {
		line := fmt.Sprintf("bind %d %d %d", x[0], x[1], x[2])
		holdState(t, []string{line}, desk.State{Bound: true, Volume: volume.Volume{Number: x[0], Height: x[1], Width: x[2]}})
		holdState(t, []string{"day 4", "say 2 x", "day 8", "say 1 y", "day 9", line}, desk.State{Day: 9, Bound: true, Volume: volume.Volume{Number: x[0], Bound: 9, Height: x[1], Width: x[2], Parts: []volume.Part{part(4, 2, "x"), part(8, 1, "y")}}})
		holdRefused(t, []string{line}, api.ErrState, line, "bind 1 1 10", "bind 0 1 10", "bind 1 0 9")
		holdRefused(t, []string{line, "day 1"}, api.ErrState, line)
	}
	// The day on which it was bound stays.
	holdState(t, split("day 3;bind 2 3 14;day 7"), desk.State{Day: 7, Bound: true, Volume: volume.Volume{Number: 2, Bound: 3, Height: 3, Width: 14}})
	for _, lines := range []string{"", "day 99999;say 1 x"} {
		holdRefused(t, split(lines), api.ErrArg, "bind 0 1 10", "bind 100 1 10", "bind -1 1 10", "bind 1 0 10", "bind 1 61 10", "bind 1 -1 10", "bind 1 1 9", "bind 1 1 81", "bind 1 1 -10", "bind 1 1 0", "bind 999999999 1 10")
	}
}

// volumeOf is the state of a volume that was bound on the day 0 and looked at on another one.
func volumeOf(day int, errata []volume.Erratum, paragraphs ...any) desk.State {
	return desk.State{Day: day, Bound: true, Errata: errata, Volume: volume.Volume{Number: 1, Height: 1, Width: 10, Parts: []volume.Part{part(0, paragraphs...)}}}
}

func TestP12_1Errata(t *testing.T) {
	first := volume.Erratum{Number: 4, Day: 3, Kind: volume.Change, Anchor: 1, Text: "z"}
	second := volume.Erratum{Number: 1, Day: 3, Kind: volume.Remove, Anchor: 2}
	third := volume.Erratum{Number: 999, Day: 8, Kind: volume.Add, Anchor: 2, Text: "w", New: 9}
	start := split("say 1 x;say 2 y;bind 1 1 10;day 3")
	lines := append(start, "change 4 1 z", "remove 1 2", "day 8", "add 999 2 9 w")
	holdState(t, lines[:5], volumeOf(3, []volume.Erratum{first}, 1, "x", 2, "y"))
	holdState(t, lines[:6], volumeOf(3, []volume.Erratum{first, second}, 1, "x", 2, "y"))
	holdState(t, lines, volumeOf(8, []volume.Erratum{first, second, third}, 1, "x", 2, "y"))
	// Before it is bound, and on the day on which it was, there are none, whatever they say.
	early := []string{"change 1 1 z", "change 0 1 z", "change 1 1 ", "change 1 9 z", "remove 1 1", "remove 0 1", "remove 1 9", "add 1 1 9 w", "add 1 1 1 w", "add 1 9 1 "}
	for _, lines := range []string{"", "say 1 x", "day 5;say 1 x", "say 1 x;day 5", "say 1 x;bind 1 1 10", "day 5;say 1 x;bind 1 1 10", "day 99999;say 1 x;bind 1 1 10;day 99999"} {
		holdRefused(t, split(lines), api.ErrState, early...)
	}
	holdRefused(t, start, api.ErrArg, "change 0 1 z", "change 1000 1 z", "change -1 1 z", "change 1 1 ", "change 1 1 \x7f", "change 1 1 "+strings.Repeat("x", 201), "change 0 9 ", "remove 0 1", "remove 1000 1", "remove 0 9", "add 0 1 9 w", "add 1 1 0 w", "add 1 1 1000 w", "add 1 1 -1 w", "add 1 1 9 ", "add 1000 9 0 w")
	holdAccepted(t, start, "change 1 1 z", "change 999 1 "+strings.Repeat("x", 200), "remove 1 2", "remove 999 2", "add 1 1 3 w", "add 999 1 999 w")
	holdRefused(t, start, api.ErrTwice, "add 1 1 1 w", "add 1 1 2 w", "add 1 9 1 w")
	holdRefused(t, start, api.ErrNone, "change 1 9 z", "remove 1 9", "add 1 9 3 w", "add 1 3 3 w", "change 1 0 z", "remove 1 -1", "add 1 1000 3 w")
	holdRefused(t, lines, api.ErrTwice, "change 4 1 q", "change 4 1 z", "remove 1 2", "remove 999 1", "add 5 1 9 w", "add 999 2 9 w", "add 4 7 8 w", "remove 4 7")
	holdAccepted(t, lines, "change 5 2 q", "remove 5 2", "add 5 2 3 q", "change 2 1 q", "change 998 1 q", "day 9")
	// What is added on a day is there for greater Numbers of that day, and for later days.
	added := append(start, "add 5 1 9 w")
	holdAccepted(t, added, "change 6 9 q", "remove 999 9", "add 6 9 8 q")
	holdRefused(t, added, api.ErrNone, "change 4 9 q", "remove 1 9", "add 4 9 8 q")
	holdAccepted(t, append(added, "day 4"), "change 4 9 q", "remove 1 9", "add 4 9 8 q")
	// There are at most twenty of them.
	twenty := append(start, each("change %d 1 z", 1, 20)...)
	holdRefused(t, twenty, api.ErrLimit, "change 21 1 z", "change 20 1 z", "remove 21 9", "add 0 1 9 w")
}

func TestP12_1Cite(t *testing.T) {
	start := split("day 2;say 1 x;say 2 y y y y y y;day 4;say 3 z;bind 9 2 10")
	cited := func(day int, cites ...string) desk.State {
		v := volume.Volume{Number: 9, Bound: 4, Height: 2, Width: 10, Parts: []volume.Part{part(2, 1, "x", 2, "y y y y y y"), part(4, 3, "z")}}
		return desk.State{Day: day, Bound: true, Volume: v, Cites: cites}
	}
	holdState(t, append(start, "cite 2 0", "cite 3 0", "cite 2 1", "cite 3 1", "cite 2 2"), cited(4, "vol. 9, col. 1, l. 2", "vol. 9, col. 3, l. 1", "vol. 9, 2, par. 2", "vol. 9, 4, par. 1", "2@4"))
	// The day counts for Anchored alone; the same may be cited again.
	holdState(t, append(start, "day 7", "cite 2 2", "cite 2 2", "day 99999", "cite 2 2", "cite 2 0"), cited(99999, "2@7", "2@7", "2@99999", "vol. 9, col. 1, l. 2"))
	holdRefused(t, split("day 2;say 1 x;day 4"), api.ErrState, "cite 1 0", "cite 1 2", "cite 1 3", "cite 1 256", "cite 9 0")
	holdRefused(t, start, api.ErrRange, "cite 1 -1", "cite 1 3", "cite 1 255", "cite 1 256", "cite 1 257", "cite 1 258", "cite 1 512", "cite 1 -256", "cite 1 -254", "cite 1 65536", "cite 9 3", "cite 9 256", "cite 0 -1")
	holdRefused(t, start, api.ErrNone, "cite 9 0", "cite 9 1", "cite 9 2", "cite 0 0", "cite 0 2", "cite -1 1", "cite 1000 2", "cite 999999999 0")
	// What is added is not in the print; what is removed is, and has an anchor.
	more := append(start, "day 5", "remove 1 1", "add 2 2 8 w")
	holdAccepted(t, more, "cite 1 0", "cite 1 1", "cite 1 2", "cite 8 2")
	holdRefused(t, more, api.ErrNone, "cite 8 0", "cite 8 1")
	if s := made(t, append(more, "cite 8 2", "cite 1 0", "cite 1 1")...); !slices.Equal(s.Cites, []string{"8@5", "vol. 9, col. 1, l. 1", "vol. 9, 2, par. 1"}) {
		t.Fatalf("the citations are %q", s.Cites)
	}
	// There may be as many as there are lines.
	if s := made(t, append(start, slices.Repeat([]string{"cite 1 2"}, 54)...)...); len(s.Cites) != 54 {
		t.Fatalf("%d citations", len(s.Cites))
	}
}

func TestP12_1Hide(t *testing.T) {
	holdState(t, split("say 1 x;say 2 y;hide 2 0 0;hide 1 7 9999;hide 2 0 0"), desk.State{Volume: draft(part(0, 1, "x", 2, "y")), Hides: []desk.Hide{{Anchor: 2, Kind: 0, Until: 0}, {Anchor: 1, Kind: 7, Until: 9999}, {Anchor: 2, Kind: 0, Until: 0}}})
	for _, lines := range []string{"", "say 1 x", "say 1 x;bind 1 1 10", "say 1 x;bind 1 1 10;day 5"} {
		holdRefused(t, split(lines), api.ErrArg, "hide 1 -1 5", "hide 1 8 5", "hide 1 0 -1", "hide 1 0 10000", "hide 9 8 5", "hide 9 0 10000", "hide 1 256 5", "hide 0 -1 -1")
		holdRefused(t, split(lines), api.ErrNone, "hide 2 0 5", "hide 0 0 5", "hide -1 0 5", "hide 1000 0 5", "hide 999999999 7 9999", "hide -999999999 0 0")
	}
	holdRefused(t, nil, api.ErrNone, "hide 1 0 5")
	// Of another day than this one it is found too, of the draft, and of the volume.
	holdAccepted(t, split("say 1 x;day 5;say 2 y;day 9"), "hide 1 3 5", "hide 2 3 5")
	added := split("say 1 x;bind 1 1 10;day 2;remove 1 1;add 2 1 9 y;add 3 9 8 z;day 3")
	holdAccepted(t, added, "hide 1 3 5", "hide 9 3 5", "hide 8 0 0")
	holdAccepted(t, append(added, "remove 4 9"), "hide 9 3 5")
	holdAccepted(t, added[:5], "hide 9 3 5")
	holdRefused(t, added[:4], api.ErrNone, "hide 9 3 5")
	// There are at most twelve.
	twelve := append(split("say 1 x;say 2 y"), slices.Repeat([]string{"hide 1 1 5"}, 12)...)
	holdRefused(t, twelve, api.ErrLimit, "hide 2 1 5", "hide 1 1 5", "hide 9 1 5")
	holdRefused(t, twelve, api.ErrArg, "hide 2 8 5", "hide 2 1 10000")
	holdRefused(t, append(twelve, "bind 1 1 10", "day 1"), api.ErrLimit, "hide 2 1 5")
}

func TestP12_1House(t *testing.T) {
	for _, n := range []int{1, 2, 39, 40} {
		holdState(t, []string{"house 3", fmt.Sprint("house ", n)}, desk.State{House: n})
	}
	for _, lines := range []string{"", "house 5"} {
		holdRefused(t, split(lines), api.ErrRange, "house 0", "house 41", "house -1", "house 999999999")
	}
	holdRefused(t, split("house 5;divide 0 0 0 1"), api.ErrState, "house 5", "house 6", "house 0", "house 41")
	holdState(t, split("house 5;divide 0 0 0 1;result;house 6"), desk.State{House: 6, Results: []uint8{tally.Carried}})
}

func TestP12_1Divide(t *testing.T) {
	for _, x := range [][4]int{{0, 0, 0, 1}, {1, 40, 40, 2}, {2, 1, 2, 1}, {0, 9, 3, 2}} {
		line := fmt.Sprintf("divide %d %d %d %d", x[0], x[1], x[2], x[3])
		holdState(t, []string{"house 5", line}, desk.State{House: 5, Open: true, Division: tally.Division{Members: 5, Rule: uint8(x[0]), Need: x[1], Quorum: x[2], Tie: uint8(x[3])}})
		holdRefused(t, []string{"house 5", line}, api.ErrState, line, "divide 3 0 0 1", "divide 256 0 0 1", "divide 0 0 0 0")
		holdRefused(t, nil, api.ErrArg, line) // the House has no members
	}
	outside := []string{"divide -1 0 0 1", "divide 256 0 0 1", "divide 257 0 0 1", "divide 0 0 0 -1", "divide 0 0 0 256", "divide 0 0 0 257", "divide 0 0 0 258", "divide 0 0 0 -255", "divide 65536 0 0 1", "divide 0 99 0 257", "divide 258 -1 0 0"}
	holdRefused(t, nil, api.ErrRange, outside...)
	holdRefused(t, split("house 5"), api.ErrRange, outside...)
	holdRefused(t, split("house 5"), api.ErrArg, "divide 3 0 0 1", "divide 255 0 0 1", "divide 0 0 0 0", "divide 0 0 0 3", "divide 0 0 0 255", "divide 0 -1 0 1", "divide 0 41 0 1", "divide 0 0 -1 1", "divide 0 0 41 1")
	// The House of the time counts.
	holdState(t, split("house 5;house 2;divide 0 0 0 1"), desk.State{House: 2, Open: true, Division: tally.Division{Members: 2, Tie: 1}})
}

func TestP12_1Tell(t *testing.T) {
	start := split("house 5;divide 0 0 0 1")
	open := func(ayes, noes [2]tally.List) desk.State {
		return desk.State{House: 5, Open: true, Division: tally.Division{Members: 5, Ayes: ayes, Noes: noes, Tie: 1}}
	}
	holdState(t, append(start, "tell 1 0 4"), open([2]tally.List{{4}, nil}, [2]tally.List{}))
	holdState(t, append(start, "tell 1 1 4"), open([2]tally.List{nil, {4}}, [2]tally.List{}))
	holdState(t, append(start, "tell 2 0 4"), open([2]tally.List{}, [2]tally.List{{4}, nil}))
	holdState(t, append(start, "tell 2 1 4"), open([2]tally.List{}, [2]tally.List{nil, {4}}))
	// A list rises, in whatever order members are told.
	d := dice(3)
	for range 50 {
		lines := each("tell 2 1 %d", 0, 4)
		mix(&d, lines)
		holdState(t, append(start, lines...), open([2]tally.List{}, [2]tally.List{nil, {0, 1, 2, 3, 4}}))
		lines = each("tell 1 0 %d", 1, 3)
		mix(&d, lines)
		holdState(t, append(start, lines...), open([2]tally.List{{1, 2, 3}, nil}, [2]tally.List{}))
	}
	holdRefused(t, split("house 5"), api.ErrState, "tell 1 0 4", "tell 0 0 4", "tell 1 2 4", "tell 1 0 5")
	holdRefused(t, split("house 5;divide 0 0 0 1;result"), api.ErrState, "tell 1 0 4", "tell 3 2 9")
	outside := []string{"tell 0 0 1", "tell 3 0 1", "tell -1 0 1", "tell 257 0 1", "tell 1 -1 1", "tell 1 2 1", "tell 2 -1 1", "tell 2 2 1", "tell 1 0 -1", "tell 1 0 5", "tell 2 1 5", "tell 2 1 -1", "tell 1 0 40", "tell 999999999 0 0", "tell 1 256 0", "tell -1 -1 -1"}
	holdRefused(t, start, api.ErrRange, outside...)
	told := append(start, "tell 1 0 1", "tell 2 1 3")
	holdRefused(t, told, api.ErrRange, outside...)
	holdRefused(t, told, api.ErrTwice, "tell 1 0 1", "tell 2 1 3")
	holdAccepted(t, told, "tell 1 1 1", "tell 2 0 1", "tell 2 1 1", "tell 2 0 3", "tell 1 0 3", "tell 1 1 3", "tell 1 0 0", "tell 1 0 4")
	large := split("house 40;divide 0 0 0 1")
	holdAccepted(t, large, "tell 1 0 39", "tell 1 0 0")
	holdRefused(t, large, api.ErrRange, "tell 1 0 40")
}

func TestP12_1Pair(t *testing.T) {
	start := split("house 25;divide 0 0 0 1")
	open := desk.State{House: 25, Open: true, Division: tally.Division{Members: 25, Tie: 1, Pairs: []tally.Pair{{A: 7, B: 3}, {A: 0, B: 24}}}}
	holdState(t, append(start, "pair 7 3", "pair 0 24"), open)
	holdRefused(t, nil, api.ErrState, "pair 0 1")
	holdRefused(t, split("house 25"), api.ErrState, "pair 0 1", "pair 0 0", "pair 0 25")
	holdRefused(t, start, api.ErrArg, "pair 0 0", "pair 0 25", "pair 25 0", "pair -1 0", "pair 0 -1", "pair 999999999 0")
	holdRefused(t, append(start, "pair 7 3"), api.ErrArg, "pair 7 3", "pair 3 7", "pair 7 1", "pair 1 7", "pair 3 1", "pair 1 3")
	ten := slices.Clone(start)
	for i := range 10 {
		ten = append(ten, fmt.Sprintf("pair %d %d", i, i+10))
	}
	holdRefused(t, ten, api.ErrArg, "pair 20 21")
	if s := made(t, ten...); len(s.Division.Pairs) != 10 {
		t.Fatalf("ten pairs: %v", s.Division.Pairs)
	}
}

func TestP12_1Result(t *testing.T) {
	agreed := "tell 1 0 0;tell 1 1 0;tell 2 0 1;tell 2 1 1" // one for each side
	for lines, want := range map[string]uint8{
		"divide 0 0 0 1":                                      tally.Carried, // by the tie
		"divide 0 0 0 2":                                      tally.Lost,
		"divide 0 0 1 1":                                      tally.Void,
		"divide 1 1 0 1":                                      tally.Carried,
		"divide 1 1 0 2":                                      tally.Lost,
		"divide 2 0 0 1":                                      tally.Lost,
		"divide 0 0 2 2;" + agreed:                            tally.Lost,
		"divide 0 0 2 1;" + agreed:                            tally.Carried,
		"divide 0 0 3 1;" + agreed:                            tally.Void,
		"divide 0 0 0 2;" + agreed + ";pair 1 2":              tally.Carried,
		"divide 0 0 0 2;" + agreed + ";pair 0 1":              tally.Lost,
		"divide 1 1 2 2;" + agreed:                            tally.Carried,
		"divide 2 0 0 1;" + agreed + ";tell 1 0 2;tell 1 1 2": tally.Carried, // two to one
		"divide 0 0 0 2;" + agreed + ";tell 2 0 2":            tally.Lost,    // whatever 2 voted
		"divide 0 0 0 1;" + agreed + ";tell 1 1 2":            tally.Carried,
	} {
		start := append([]string{"house 3"}, split(lines)...)
		holdState(t, append(start, "result"), desk.State{House: 3, Results: []uint8{want}})
		holdRefused(t, append(start, "result"), api.ErrState, "result")
	}
	holdState(t, split("house 3;divide 0 0 0 2;result;divide 0 0 0 1;result;divide 0 0 1 1;result;divide 0 0 0 2;result"), desk.State{House: 3, Results: []uint8{tally.Lost, tally.Carried, tally.Void, tally.Lost}})
	holdRefused(t, nil, api.ErrState, "result")
	holdRefused(t, split("house 3"), api.ErrState, "result")
	holdRefused(t, split("house 3;divide 0 0 0 2;"+agreed+";tell 1 0 2"), api.ErrGap, "result")
	holdRefused(t, split("house 3;divide 0 0 1 1;tell 2 1 2"), api.ErrGap, "result") // void or lost
	holdRefused(t, split("house 3;divide 0 0 0 2;"+agreed+";tell 1 0 1;tell 1 1 1"), api.ErrFail, "result")
	// Up to eight members may be doubtful.
	many := append(split("house 40;divide 0 0 1 2"), each("tell 2 0 %d", 0, 7)...)
	holdRefused(t, many, api.ErrGap, "result")
	holdRefused(t, append(many, "tell 2 0 8"), api.ErrLimit, "result")
	sure := append(split("house 40;divide 0 0 0 2"), each("tell 2 0 %d", 0, 7)...)
	holdState(t, append(sure, "result"), desk.State{House: 40, Results: []uint8{tally.Lost}})
	holdRefused(t, append(sure, "tell 2 1 8"), api.ErrLimit, "result")
	// Who clashes comes ahead of who is doubtful.
	holdRefused(t, append(many, "tell 2 0 9", "tell 2 1 9", "tell 1 0 9", "tell 1 1 9", "tell 2 0 8"), api.ErrFail, "result")
}

func TestP12_1Move(t *testing.T) {
	holdState(t, split("move this House notes"), desk.State{Moved: true, Motion: paper.Motion{Words: []string{"this", "House", "notes"}}})
	holdState(t, split("move "), desk.State{Moved: true})
	holdRefused(t, split("move x"), api.ErrState, "move x", "move y", "move ", "move a\tb", "move "+strings.Repeat("x ", 61))
	holdAccepted(t, split("move x;order 1"), "move y")
	// A motion may be moved when the volume is bound, and amended.
	bound := split("bind 1 1 10;move x;paper 1 0 0 1 y;adopt 1")
	if s := made(t, bound...); !s.Moved || !slices.Equal(s.Choice, []int{1}) {
		t.Fatalf("%+v", s)
	}
}

func TestP12_1Paper(t *testing.T) {
	start := split("move a b c")
	first := paper.Paper{Number: 9, Of: 0, From: 1, To: 3, Words: []string{"d", "e"}}
	second := paper.Paper{Number: 2, Of: 9, From: 0, To: 0}
	moved := func(papers ...paper.Paper) desk.State {
		return desk.State{Moved: true, Motion: paper.Motion{Words: []string{"a", "b", "c"}, Papers: papers}}
	}
	holdState(t, append(start, "paper 9 0 1 3 d e"), moved(first))
	holdState(t, append(start, "paper 9 0 1 3 d e", "paper 2 9 0 0 "), moved(first, second))
	holdRefused(t, nil, api.ErrState, "paper 1 0 0 0 x", "paper 0 0 0 0 x", "paper 1 0 0 0 \x7f")
	holdRefused(t, split("move a;order 1"), api.ErrState, "paper 1 0 0 0 x")
	holdRefused(t, start, api.ErrForm, "paper 1 0 0 0 \x7f", "paper 0 5 9 0 é")
	holdRefused(t, start, api.ErrRange, "paper 0 0 0 0 x", "paper 1000 0 0 0 x", "paper -1 0 0 0 x", "paper 0 7 9 0 x")
	holdRefused(t, start, api.ErrNone, "paper 1 7 0 0 x", "paper 1 -1 0 0 x", "paper 1 999 3 1 x")
	holdRefused(t, start, api.ErrState, "paper 1 1 0 0 x", "paper 1 1 7 0 x") // it amends itself
	holdRefused(t, start, api.ErrArg, "paper 1 0 -1 0 x", "paper 1 0 2 1 x", "paper 1 0 0 4 x", "paper 1 0 4 4 x", "paper 1 0 3 -1 x")
	holdAccepted(t, start, "paper 1 0 0 0 x", "paper 999 0 3 3 x", "paper 1 0 0 3 ", "paper 1 0 3 3  x ")
	one := append(start, "paper 9 0 1 3 d e")
	holdRefused(t, one, api.ErrTwice, "paper 9 0 0 0 x", "paper 9 9 0 0 x", "paper 9 5 0 0 x", "paper 9 0 1 3 d e")
	holdRefused(t, one, api.ErrArg, "paper 1 9 0 3 x", "paper 1 9 3 3 x")
	holdAccepted(t, one, "paper 1 9 0 2 x", "paper 1 9 2 2 x", "paper 1 0 1 3 x") // papers may clash
	ten := append(start, each("paper %d 0 0 0 x", 1, 10)...)
	holdRefused(t, ten, api.ErrLimit, "paper 11 0 0 0 x", "paper 1 0 0 0 x", "paper 0 9 9 0 \x7f")
}

func TestP12_1Adopt(t *testing.T) {
	start := split("move a b c;paper 5 0 0 1 d;paper 3 0 1 2 e;paper 9 0 2 3 f;paper 7 5 0 1 g;paper 1 0 0 2 h;paper 2 1 0 0 i")
	for lines, want := range map[string][]int{"adopt 5": {5}, "adopt 9;adopt 3;adopt 5": {3, 5, 9}, "adopt 5;adopt 7;adopt 3": {3, 5, 7}, "adopt 1;adopt 9;adopt 2": {1, 2, 9}, "adopt 3;adopt 9;adopt 5;adopt 7": {3, 5, 7, 9}} {
		before := made(t, start...)
		before.Choice = want
		holdState(t, append(slices.Clone(start), split(lines)...), before)
	}
	holdRefused(t, nil, api.ErrState, "adopt 5", "adopt 0")
	holdRefused(t, append(start, "order 1"), api.ErrState, "adopt 5")
	holdRefused(t, start, api.ErrRange, "adopt 4", "adopt 0", "adopt -1", "adopt 1000", "adopt 999999999", "adopt -999999999")
	holdRefused(t, start, api.ErrGap, "adopt 7", "adopt 2")
	adopted := append(start, "adopt 5")
	holdRefused(t, adopted, api.ErrTwice, "adopt 5")
	holdRefused(t, adopted, api.ErrFail, "adopt 1")
	holdRefused(t, adopted, api.ErrGap, "adopt 2")
	holdRefused(t, adopted, api.ErrRange, "adopt 4", "adopt 0", "adopt 6")
	holdAccepted(t, adopted, "adopt 3", "adopt 7", "adopt 9")
	// A paper that comes later may be adopted as well.
	holdAccepted(t, append(adopted, "paper 6 5 1 1 x", "paper 4 6 0 0 y", "adopt 6"), "adopt 4", "adopt 7")
}

func TestP12_1Order(t *testing.T) {
	resolved := func(day int, p ...volume.Part) desk.State { return desk.State{Day: day, Volume: draft(p...)} }
	holdState(t, split("move  this  House notes ;order 5"), resolved(0, part(0, 5, "this House notes")))
	holdState(t, split("move a b c;paper 5 0 1 2 d e;paper 3 5 1 2 f;paper 2 0 3 3 g;adopt 5;adopt 3;order 5"), resolved(0, part(0, 5, "a d f c")))
	holdState(t, split("day 1;say 1 x;say 2 y;move a;order 5;say 3 z;day 4;move b;order 9;move c;order 8"), resolved(4, part(1, 1, "x", 2, "y", 5, "a", 3, "z"), part(4, 9, "b", 8, "c")))
	holdRefused(t, nil, api.ErrState, "order 1", "order 0")
	holdRefused(t, split("say 1 x"), api.ErrState, "order 1", "order 2")
	holdRefused(t, split("move a;order 1"), api.ErrState, "order 2")
	holdRefused(t, split("bind 1 1 10"), api.ErrState, "order 1")
	holdRefused(t, split("say 1 x;bind 1 1 10;move a;day 1"), api.ErrState, "order 2", "order 1", "order 0")
	holdRefused(t, split("move a;bind 1 1 10"), api.ErrState, "order 2")
	// As say: what no paragraph can be.
	moved := split("say 1 x;move a;paper 2 0 0 1 ;paper 3 0 1 1 b;adopt 3")
	holdRefused(t, moved, api.ErrArg, "order 0", "order -1", "order 1000")
	holdRefused(t, moved, api.ErrTwice, "order 1")
	holdAccepted(t, moved, "order 2", "order 999")
	holdRefused(t, split("move "), api.ErrArg, "order 1")
	holdRefused(t, split("move a;paper 2 0 0 1 ;adopt 2"), api.ErrArg, "order 1")
	words := strings.Repeat(strings.Repeat("x", 19)+" ", 10) // 199 bytes with the blanks between
	holdState(t, []string{"move " + words, "order 1"}, resolved(0, part(0, 1, strings.TrimSpace(words))))
	holdState(t, []string{"move " + words, "paper 1 0 0 0 x", "paper 2 1 0 1 ", "paper 3 0 0 1 " + strings.Repeat("y", 20), "adopt 3", "order 1"}, resolved(0, part(0, 1, strings.Repeat("y", 20)+strings.TrimSpace(words)[19:])))
	holdRefused(t, []string{"move " + words, "paper 1 0 0 0 x", "adopt 1"}, api.ErrArg, "order 1")
	thirty := append(each("say %d x", 1, 30), "move a")
	holdRefused(t, thirty, api.ErrLimit, "order 31", "order 1", "order 0")
	six := split("say 1 x;day 1;say 2 x;day 2;say 3 x;day 3;say 4 x;day 4;say 5 x;day 5;say 6 x;move a")
	holdAccepted(t, six, "order 7")
	holdRefused(t, append(six, "day 6"), api.ErrLimit, "order 7")
}

// P12.1: a session as large as there may be, of all that there is.
func TestP12_1Largest(t *testing.T) {
	long := strings.Repeat("x", 200)
	lines := each("say %d "+long, 1, 30)
	lines = append(lines, "bind 99 60 80", "day 99999")
	lines = append(lines, each("add 99%d 30 9%d "+long, 0, 9)...)
	lines = append(lines, each("change 98%d 1 "+long, 0, 9)...)
	lines = append(lines, each("hide 9%d 7 9999", 0, 7)...)
	if s := made(t, lines...); len(s.Errata) != 20 || len(s.Hides) != 8 || len(lines) != 60 {
		t.Fatalf("%d lines make %+v", len(lines), s)
	}
	holdRun(t, lines)
}
