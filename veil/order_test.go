package veil_test

import (
	"slices"
	"testing"

	"palantype/api"
	"palantype/veil"
)

// holdClosed holds that Closed returns this.
func holdClosed(t *testing.T, r veil.Report, x veil.Reader, want ...veil.Shut) {
	t.Helper()
	if l, e := veil.Closed(r, x); !slices.Equal(l, want) || e != api.OK {
		t.Fatalf("Closed of %v, %v: %v, %v, not %v", r, x, l, e, want)
	}
}

// holdUseless holds that Useless returns these orders.
func holdUseless(t *testing.T, r veil.Report, x veil.Reader, want ...int) {
	t.Helper()
	if l, e := veil.Useless(r, x); !slices.Equal(l, want) || e != api.OK {
		t.Fatalf("Useless of %v, %v: %v, %v, not %v", r, x, l, e, want)
	}
}

// holdFewest holds that Fewest returns the number.
func holdFewest(t *testing.T, r veil.Report, x veil.Reader, want int) {
	t.Helper()
	if n, e := veil.Fewest(r, x); n != want || e != api.OK {
		t.Fatalf("Fewest of %v, %v: %v, %v, not %v", r, x, n, e, want)
	}
}

// P9.4: the examples of the chapter, and other readers of them.
func TestP9_4ClosedExamples(t *testing.T) {
	holdClosed(t, bern(), in(1970), shut(3, 6, 1990))
	holdClosed(t, bern(), in(1970, 1), shut(4, 6, 1980))
	holdClosed(t, bern(), in(1970, 2), shut(3, 4, 1990), shut(5, 6, 1975))
	holdClosed(t, bern(), in(1975, 2), shut(3, 4, 1990))
	holdClosed(t, bern(), in(1979), shut(3, 6, 1990))
	holdClosed(t, bern(), in(1980), shut(3, 4, 1990))
	holdClosed(t, bern(), in(1989), shut(3, 4, 1990))
	holdClosed(t, bern(), in(1990))
	holdClosed(t, bern(), in(1970, 1, 2))
}

// P9.4: runs, and their years.
func TestP9_4Closed(t *testing.T) {
	for _, x := range []struct {
		reader veil.Reader
		orders []veil.Order
		want   []veil.Shut
	}{
		{in(0), nil, nil},
		{in(0), []veil.Order{order(0, 6, 0, 0)}, nil},
		{in(0), []veil.Order{order(0, 6, 0, 1)}, []veil.Shut{shut(0, 6, 1)}},
		{in(0), []veil.Order{order(0, 1, 0, 1), order(5, 6, 0, api.MaxYear)}, []veil.Shut{shut(0, 1, 1), shut(5, 6, api.MaxYear)}},
		{in(api.MaxYear - 1), []veil.Order{order(2, 3, 0, api.MaxYear)}, []veil.Shut{shut(2, 3, api.MaxYear)}},
		// A run opens with the last of its words, wherever that is.
		{in(3), []veil.Order{order(0, 2, 0, 9), order(2, 4, 0, 5)}, []veil.Shut{shut(0, 4, 9)}},
		{in(3), []veil.Order{order(0, 2, 0, 5), order(2, 4, 0, 9)}, []veil.Shut{shut(0, 4, 9)}},
		{in(3), []veil.Order{order(0, 2, 0, 5), order(1, 3, 0, 9), order(2, 4, 0, 7)}, []veil.Shut{shut(0, 4, 9)}},
		{in(5), []veil.Order{order(0, 2, 0, 5), order(1, 3, 0, 9), order(2, 4, 0, 7)}, []veil.Shut{shut(1, 4, 9)}},
		{in(7), []veil.Order{order(0, 2, 0, 5), order(1, 3, 0, 9), order(2, 4, 0, 7)}, []veil.Shut{shut(1, 3, 9)}},
		// Of several orders that hide the same words the last one.
		{in(3), []veil.Order{order(1, 3, 0, 5), order(1, 3, 1, 8), order(1, 3, 0, 6)}, []veil.Shut{shut(1, 3, 8)}},
		{in(3, 1), []veil.Order{order(1, 3, 0, 5), order(1, 3, 1, 8), order(1, 3, 0, 6)}, []veil.Shut{shut(1, 3, 6)}},
		// What one may read does not matter, though it is hidden for longer.
		{in(3, 2), []veil.Order{order(0, 6, 2, 99), order(1, 3, 0, 5)}, []veil.Shut{shut(1, 3, 5)}},
		{in(3, 2), []veil.Order{order(1, 3, 0, 5), order(3, 4, 2, 99), order(4, 5, 1, 6)}, []veil.Shut{shut(1, 3, 5), shut(4, 5, 6)}},
		// By rising From, in whatever order they are hidden.
		{in(0), []veil.Order{order(4, 5, 0, 2), order(2, 3, 0, 3), order(0, 1, 0, 4)}, []veil.Shut{shut(0, 1, 4), shut(2, 3, 3), shut(4, 5, 2)}},
	} {
		r := spoken("a b c d e f", 2, x.orders...)
		holdClosed(t, r, x.reader, x.want...)
		holdClosed(t, r, x.reader, closedOf(r, x.reader)...)
	}
	holdClosed(t, veil.Report{Columns: 1}, in(0))
	holdClosed(t, long(api.MaxPrinted, 1, order(0, api.MaxPrinted, 7, 3)), in(2), shut(0, api.MaxPrinted, 3))
	holdClosed(t, long(api.MaxPrinted, 1, order(0, 1, 7, 3), order(59, 60, 7, 4)), in(2), shut(0, 1, 3), shut(59, 60, 4))
}

// P9.5: the examples of the chapter, and other readers of them.
func TestP9_5Examples(t *testing.T) {
	for _, x := range []struct {
		reader  veil.Reader
		useless []int
		fewest  int
	}{
		{in(1970), []int{2}, 2},
		{in(1974), []int{2}, 2},
		{in(1975), nil, 2},
		{in(1970, 1), nil, 1},
		{in(1970, 2), nil, 2},
		{in(1980), nil, 1},
		{in(1990), nil, 0},
		{in(1970, 1, 2), nil, 0},
	} {
		holdUseless(t, bern(), x.reader, x.useless...)
		holdFewest(t, bern(), x.reader, x.fewest)
	}
}

// P9.5: orders that hide what others do.
func TestP9_5Orders(t *testing.T) {
	until := func(year int, kind int, l ...[2]int) []veil.Order {
		var orders []veil.Order
		for _, o := range l {
			orders = append(orders, order(o[0], o[1], kind, year))
		}
		return orders
	}
	for _, x := range []struct {
		orders  []veil.Order
		useless []int
		fewest  int
	}{
		{nil, nil, 0},
		{until(5, 0, [2]int{0, 8}), nil, 1},
		// Two that are the same are both useless; but one of them is needed.
		{until(5, 0, [2]int{2, 4}, [2]int{2, 4}), []int{0, 1}, 1},
		{until(5, 0, [2]int{2, 4}, [2]int{2, 4}, [2]int{2, 4}), []int{0, 1, 2}, 1},
		{until(5, 0, [2]int{0, 4}, [2]int{2, 6}, [2]int{0, 6}), []int{0, 1, 2}, 1},
		// One in another one, at its beginning, inside, and at its end.
		{until(5, 0, [2]int{1, 6}, [2]int{1, 2}), []int{1}, 1},
		{until(5, 0, [2]int{3, 4}, [2]int{1, 6}), []int{0}, 1},
		{until(5, 0, [2]int{1, 6}, [2]int{5, 6}), []int{1}, 1},
		// Just not inside.
		{until(5, 0, [2]int{1, 6}, [2]int{5, 7}), nil, 2},
		{until(5, 0, [2]int{1, 6}, [2]int{0, 2}), nil, 2},
		{until(5, 0, [2]int{1, 3}, [2]int{3, 5}), nil, 2},
		// By two others together, which meet, or overlap, or leave a word.
		{until(5, 0, [2]int{0, 3}, [2]int{2, 5}, [2]int{3, 6}), []int{1}, 2},
		{until(5, 0, [2]int{0, 3}, [2]int{2, 5}, [2]int{4, 6}), nil, 3},
		{until(5, 0, [2]int{4, 8}, [2]int{1, 7}, [2]int{0, 4}), []int{1}, 2},
		{until(5, 0, [2]int{0, 4}, [2]int{1, 5}, [2]int{3, 6}, [2]int{2, 6}), []int{1, 2, 3}, 2},
		// The longest one is not among the fewest.
		{until(5, 0, [2]int{1, 7}, [2]int{0, 4}, [2]int{4, 8}), []int{0}, 2},
		// If those are left out one by one that are useless, three stay.
		{until(5, 0, [2]int{0, 3}, [2]int{3, 6}, [2]int{0, 2}, [2]int{2, 4}, [2]int{4, 6}), []int{0, 1, 2, 3, 4}, 2},
		{until(5, 0, [2]int{0, 2}, [2]int{1, 3}, [2]int{2, 4}, [2]int{3, 5}, [2]int{4, 6}, [2]int{5, 7}), []int{1, 2, 3, 4}, 4},
		// What does not hold is neither useless, nor makes another one so.
		{append(until(5, 0, [2]int{1, 4}), until(3, 0, [2]int{1, 4})...), nil, 1},
		{append(until(5, 0, [2]int{1, 4}), until(5, 3, [2]int{1, 4})...), nil, 1},
		{append(until(3, 0, [2]int{1, 4}), until(4, 0, [2]int{2, 3})...), nil, 1},
		{append(until(9, 3, [2]int{0, 8}), until(4, 0, [2]int{2, 3}, [2]int{5, 6})...), nil, 2},
		{append(until(3, 0, [2]int{1, 4}, [2]int{1, 4}), until(9, 3, [2]int{1, 4})...), nil, 0},
		// Other years and kinds do not matter, as long as both hold.
		{append(until(9, 1, [2]int{1, 4}), until(4, 2, [2]int{1, 4})...), []int{0, 1}, 1},
		// In several gaps.
		{until(5, 0, [2]int{6, 8}, [2]int{0, 2}, [2]int{1, 2}, [2]int{3, 4}, [2]int{7, 8}), []int{2, 4}, 3},
	} {
		r := spoken("a b c d e f g h", 3, x.orders...)
		holdUseless(t, r, in(3, 3), x.useless...)
		holdFewest(t, r, in(3, 3), x.fewest)
		if l, n := uselessOf(r, in(3, 3)), fewestOf(r, in(3, 3)); !slices.Equal(l, x.useless) || n != x.fewest {
			t.Fatalf("%v: %v, %v, not %v, %v", r, l, n, x.useless, x.fewest)
		}
	}
	holdUseless(t, veil.Report{Columns: 1}, in(0))
	holdFewest(t, veil.Report{Columns: 1}, in(0), 0)
}

// P9.5: as many orders as there may be.
func TestP9_5ManyOrders(t *testing.T) {
	// Each hides five words, and meets the next one.
	meeting := long(api.MaxPrinted, 3)
	for i := range api.MaxOrders {
		meeting.Orders = append(meeting.Orders, order(5*i, 5*i+5, i%8, 5))
	}
	holdUseless(t, meeting, in(4))
	holdFewest(t, meeting, in(4), api.MaxOrders)
	holdFewest(t, meeting, in(4, 0, 1), api.MaxOrders-4)
	// They are all the same.
	same := long(api.MaxPrinted, 3, slices.Repeat([]veil.Order{order(0, 60, 0, 5)}, api.MaxOrders)...)
	holdUseless(t, same, in(4), numbersTo(api.MaxOrders)...)
	holdFewest(t, same, in(4), 1)
	// Each has all but one word of the one ahead of it, and one more.
	steps := long(api.MaxPrinted, 3)
	for i := range api.MaxOrders {
		steps.Orders = append(steps.Orders, order(i, i+4, 0, 5))
	}
	holdUseless(t, steps, in(4), 1, 2, 3, 4, 5, 6, 7, 8, 9, 10)
	holdFewest(t, steps, in(4), 4)
}

// P9.5, with P9.4: all lists of three orders of four words, and of four of three.
func TestP9_5AllLists(t *testing.T) {
	for _, x := range []struct{ words, orders int }{{4, 3}, {3, 4}} {
		var all []veil.Order
		for from := range x.words {
			for to := from + 1; to <= x.words; to++ {
				all = append(all, order(from, to, 0, 5+len(all)))
			}
		}
		lists := [][]veil.Order{nil}
		for range x.orders {
			var longer [][]veil.Order
			for _, l := range lists {
				for _, o := range all {
					longer = append(longer, append(slices.Clone(l), o))
				}
			}
			lists = longer
		}
		for _, l := range lists {
			r := long(x.words, 2, l...)
			for _, year := range []int{0, 7} {
				holdUseless(t, r, in(year), uselessOf(r, in(year))...)
				holdFewest(t, r, in(year), fewestOf(r, in(year)))
				holdClosed(t, r, in(year), closedOf(r, in(year))...)
			}
		}
	}
}

// P9.5: many orders, of which nearly all hold.
func TestP9_5Many(t *testing.T) {
	d := dice(5)
	useless, less := 0, 0
	for range 1500 {
		r := long(d.roll(1, 24), 3)
		r.Orders = d.orders(len(r.Words), api.MaxOrders, 20)
		x := in(d.roll(0, 3))
		holdUseless(t, r, x, uselessOf(r, x)...)
		holdFewest(t, r, x, fewestOf(r, x))
		useless += len(uselessOf(r, x))
		less += len(holding(r, x)) - fewestOf(r, x)
	}
	if useless < 5000 || less < 4000 {
		t.Errorf("%d are useless, %d fewer are needed", useless, less)
	}
}
