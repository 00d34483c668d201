package tongue_test

import (
	"math"
	"slices"
	"testing"

	"palantype/api"
	"palantype/tongue"
)

// proofOf returns the table that Proof returns.
func proofOf(t *testing.T, l, r text) tongue.Table {
	t.Helper()
	p, e := tongue.Proof(l, r)
	if e != api.OK {
		t.Fatalf("Proof of %v, %v: %v", l, r, e)
	}
	return p
}

// cloned returns a copy that shares no memory.
func cloned(p tongue.Table) tongue.Table {
	var c tongue.Table
	for _, row := range p {
		c = append(c, slices.Clone(row))
	}
	return c
}

// holdProof holds that the table of Proof proves this cost, and no other one.
func holdProof(t *testing.T, l, r text, cost int) {
	t.Helper()
	p := proofOf(t, l, r)
	if !proves(l, r, cost, p) || !tongue.ProveCost(l, r, cost, p) || tongue.ProveCost(l, r, cost+1, p) || tongue.ProveCost(l, r, cost-1, p) {
		t.Fatalf("Proof of %v, %v: %v, and not for %v", l, r, p, cost)
	}
}

// holdTable holds that Proof returns the table.
func holdTable(t *testing.T, l, r text, want tongue.Table) {
	t.Helper()
	if p := proofOf(t, l, r); !slices.EqualFunc(p, want, slices.Equal) {
		t.Fatalf("Proof of %v, %v: %v, not %v", l, r, p, want)
	}
}

// holdProves holds whether ProveCost says that the table proves the cost.
func holdProves(t *testing.T, l, r text, cost int, p tongue.Table, want bool) {
	t.Helper()
	if tongue.ProveCost(l, r, cost, p) != want {
		t.Fatalf("ProveCost of %v, %v, %v, %v: not %v", l, r, cost, p, want)
	}
}

// P8.2: tables of small texts.
func TestP8_2Proof(t *testing.T) {
	holdTable(t, nil, nil, tongue.Table{{0}})
	holdTable(t, text{says(1, 5)}, text{says(1, 6)}, tongue.Table{{0, 5}, {5, 4}})
	holdTable(t, nil, text{says(1), says(9, 3, 4)}, tongue.Table{{0, 3, 10}})
	holdTable(t, text{says(1), says(9, 3, 4)}, nil, tongue.Table{{0}, {3}, {10}})
	l, r := sides()
	holdTable(t, l, r, tongue.Table{{0, 5, 12, 15}, {7, 2, 3, 6}, {12, 5, 4, 5}, {15, 8, 5, 4}})
}

// P8.2: each number of the table, against all matches of the first so many.
func TestP8_2ProofSmallTexts(t *testing.T) {
	all := map[[2]int][]steps{}
	for i := range 4 {
		for k := range 4 {
			all[[2]int{i, k}] = matches(i, k)
		}
	}
	d := dice(2)
	for range 3000 {
		l, r := d.pair(3)
		var want tongue.Table
		for i := range len(l) + 1 {
			var row []int
			for k := range len(r) + 1 {
				_, cost := bestOf(l[:i], r[:k], all[[2]int{i, k}])
				row = append(row, cost)
			}
			want = append(want, row)
		}
		holdTable(t, l, r, want)
		holdProof(t, l, r, want[len(l)][len(r)])
	}
}

// P8.2: each number of the table of large texts.
func TestP8_2ProofMany(t *testing.T) {
	d := dice(22)
	for range 40 {
		l, r := d.pair(api.MaxSentences)
		p := proofOf(t, l, r)
		if len(p) != len(l)+1 {
			t.Fatalf("Proof of %v, %v: %v", l, r, p)
		}
		for i, row := range p {
			if len(row) != len(r)+1 {
				t.Fatalf("Proof of %v, %v: %v", l, r, p)
			}
			for k, n := range row {
				if _, cost := searchOf(l[:i], r[:k]).from(0, 0); n != cost {
					t.Fatalf("Proof of %v, %v: %d at %d, %d, not %d", l, r, n, i, k, cost)
				}
			}
		}
		holdProof(t, l, r, p[len(l)][len(r)])
	}
}

// P8.2: tables of one sentence each.
func TestP8_2ProveCost(t *testing.T) {
	l, r := text{says(1, 5)}, text{says(1, 6)}
	for _, x := range []struct {
		table tongue.Table
		cost  int
		want  bool
	}{
		{tongue.Table{{0, 5}, {5, 4}}, 4, true},
		{tongue.Table{{0, 5}, {5, 4}}, 3, false},
		{tongue.Table{{0, 5}, {5, 4}}, 5, false},
		{tongue.Table{{0, 5}, {5, 3}}, 3, true},
		{tongue.Table{{0, 0}, {0, 0}}, 0, true},
		{tongue.Table{{0, 0}, {0, 4}}, 4, true},
		{tongue.Table{{0, 0}, {5, 4}}, 4, true},
		{tongue.Table{{0, 5}, {5, 5}}, 5, false}, // from the first number
		{tongue.Table{{0, 6}, {5, 4}}, 4, false},
		{tongue.Table{{0, 5}, {6, 4}}, 4, false},
		{tongue.Table{{1, 5}, {5, 4}}, 4, false},
		{tongue.Table{{1, 1}, {1, 1}}, 1, false},
		{tongue.Table{{-1, 4}, {4, 3}}, 3, false},
		{tongue.Table{{0, -1}, {5, 4}}, 4, false},
		{tongue.Table{{0, 5}, {-1, 4}}, 4, false},
		{tongue.Table{{0, 5}, {5, -1}}, -1, false},
		{tongue.Table{{0, math.MinInt}, {5, 4}}, 4, false},
		{tongue.Table{{0, 5}, {math.MaxInt, 4}}, 4, false},
		{nil, 0, false},
		{tongue.Table{nil, nil}, 0, false},
		{tongue.Table{{0, 5}}, 5, false},
		{tongue.Table{{0, 5}, {5}}, 5, false},
		{tongue.Table{{0}, {5, 4}}, 4, false},
		{tongue.Table{{0, 5}, {5, 4}, {4, 4}}, 4, false},
		{tongue.Table{{0, 5, 5}, {5, 4, 4}}, 4, false},
		{tongue.Table{{0, 5}, {5, 4, 4}}, 4, false},
		{tongue.Table{{0, 5}, nil}, 4, false},
	} {
		holdProves(t, l, r, x.cost, x.table, x.want)
	}
	holdProves(t, nil, nil, 0, tongue.Table{{0}}, true)
	holdProves(t, nil, nil, 1, tongue.Table{{1}}, false)
	holdProves(t, nil, nil, 0, tongue.Table{{1}}, false)
	holdProves(t, nil, nil, 0, nil, false)
	holdProves(t, nil, nil, 0, tongue.Table{{}}, false)
	holdProves(t, nil, nil, 0, tongue.Table{{0}, {0}}, false)
}

// P8.2: all tables of one sentence each, with small numbers.
func TestP8_2ProveCostSmallTables(t *testing.T) {
	proved := 0
	for _, l := range smallTexts(1)[1:] {
		for _, r := range smallTexts(1)[1:] {
			for i := range 3 * 10 * 10 * 10 {
				p := tongue.Table{{i % 3, i / 3 % 10}, {i / 30 % 10, i / 300}}
				for cost := range 10 {
					want := proves(l, r, cost, p)
					holdProves(t, l, r, cost, p, want)
					if want {
						proved++
					}
				}
			}
		}
	}
	if proved < 1000 {
		t.Errorf("%d are proved", proved)
	}
}

// P8.2: tables of which some numbers are other ones than those of Proof.
func TestP8_2ProveCostMany(t *testing.T) {
	d := dice(23)
	count := map[bool]int{}
	for range 6000 {
		l, r := d.pair(6)
		p := cloned(proofOf(t, l, r))
		less := d.roll(0, 2) // by which all numbers may be made less
		for _, row := range p {
			for k := range row {
				row[k] = max(0, row[k]-d.roll(0, less))
			}
		}
		for range d.roll(0, 2) {
			row := p[d.roll(0, len(l))]
			row[d.roll(0, len(r))] += d.roll(-2, 2)
		}
		for i := 1; i < len(p) && less > 1; i++ { // so that it is right again
			for k := 1; k < len(p[i]); k++ {
				p[i][k] = max(0, min(p[i][k], p[i-1][k-1], p[i-1][k], p[i][k-1]))
			}
		}
		cost := p[len(l)][len(r)]
		want := proves(l, r, cost, p)
		holdProves(t, l, r, cost, p, want)
		holdProves(t, l, r, cost+1, p, false)
		count[want]++
	}
	if count[true] < 1000 || count[false] < 1000 {
		t.Errorf("%d are proved, %d are not", count[true], count[false])
	}
}

// P8.2: numbers up to MaxCost may stand in a table, where others allow them.
func TestP8_2ProveCostBounds(t *testing.T) {
	// With the first number 0 no number of a right table can be so great; so it
	// shows only where the table is refused anyway.
	l := text{says(1, 1)}
	for n := range 8 {
		holdProves(t, l, nil, n, tongue.Table{{0}, {n}}, n <= 5)
	}
	for _, n := range []int{api.MaxCost - 1, api.MaxCost, api.MaxCost + 1, math.MaxInt} {
		holdProves(t, l, nil, n, tongue.Table{{0}, {n}}, false)
		holdProves(t, nil, nil, n, tongue.Table{{n}}, false)
	}
}
