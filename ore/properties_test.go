package ore_test

import (
	"slices"
	"testing"

	"agonic/api"
	"agonic/ore"
)

// index returns the index of a block, which has to be one of a certain field.
func index(t *testing.T, f ore.Field, b ore.Block) int {
	t.Helper()
	n, e := ore.Index(f, b)
	if e != api.OK {
		t.Fatalf("Index(%v, %v): %d", f, b, e)
	}
	return n
}

// P9.1: fields that are certain, nearly certain, and not.
func TestCheckAgainstDefinition(t *testing.T) {
	d := dice{1}
	count := map[api.Errno]int{}
	for range 20000 {
		f := d.wild(d.roll(2, 5), d.roll(2, 5), d.pick(0, 100, 400))
		f.Off = min(400, f.Off+d.pick(0, 0, 1, 20))
		if d.roll(0, 1) == 0 {
			// A neighbor that is nearly, or just, too far.
			i, far := d.roll(0, len(f.Needles)-1), 1800-2*f.Off
			j := d.pick(i-1, i+1, i-f.Width, i+f.Width)
			f.Needles[i] = back(f.Needles[min(max(j, 0), len(f.Needles)-1)] + d.pick(-1, 1)*(far-d.pick(0, 1)))
		}
		want := trueCheck(f)
		if e := ore.Check(f); e != want {
			t.Fatalf("Check(%v) = %d, want %d", f, e, want)
		}
		count[want]++
	}
	if min(count[api.OK], count[api.ErrLost]) < 2000 {
		t.Errorf("too few of one kind: %v", count)
	}
}

// P9.2, G3: the index of every block is how often its needles turn over a direction.
func TestIndexAgainstDefinition(t *testing.T) {
	d := dice{2}
	count := map[int]int{}
	for range 600 {
		f := d.good()
		for _, b := range blocks(f) {
			want := trueIndex(f, b)
			if n := index(t, f, b); n != want {
				t.Fatalf("Index(%v, %v) = %d, want %d", f, b, n, want)
			}
			count[want]++
		}
	}
	for n := -3; n <= 3; n++ {
		if count[n] < 100 {
			t.Errorf("too few of one kind: %v", count)
		}
	}
}

// P9.2, G2: ore is all cells with an index, and no other ones, in their order.
func TestOreAgainstDefinition(t *testing.T) {
	d := dice{3}
	for range 3000 {
		f := d.good()
		var cells []ore.Block
		var indices []int
		for _, c := range cellsOf(whole(f)) {
			if n := trueIndex(f, c); n != 0 {
				cells = append(cells, c)
				indices = append(indices, n)
			}
		}
		got, n, e := ore.Ore(f)
		if !slices.Equal(got, cells) || !slices.Equal(n, indices) || e != api.OK {
			t.Fatalf("Ore(%v) = %v %v %d, want %v %v", f, got, n, e, cells, indices)
		}
	}
}

// P9.5, G2: indices add up, from cells to blocks and over both parts of a cut; a cell has at most 1.
func TestSums(t *testing.T) {
	d := dice{4}
	for range 500 {
		f := d.good()
		for _, b := range blocks(f) {
			sum := 0
			for _, c := range cellsOf(b) {
				n := index(t, f, c)
				if n < -1 || n > 1 {
					t.Fatalf("%v: a cell %v has the index %d", f, c, n)
				}
				sum += n
			}
			if n := index(t, f, b); n != sum {
				t.Fatalf("%v: %v has the index %d, its cells %d", f, b, n, sum)
			}
			for _, c := range allCuts(b.W, b.H) {
				_, one, other := divided(b, c)
				if n := index(t, f, one) + index(t, f, other); n != sum {
					t.Fatalf("%v: %v has the index %d, both parts of the cut %v %d", f, b, sum, c, n)
				}
			}
		}
	}
}

// P9.6, G1: in truths with integers, up to the ends of Off, indices are the same.
func TestTruths(t *testing.T) {
	d := dice{5}
	for range 500 {
		f := d.wild(d.roll(2, 6), d.roll(2, 6), d.pick(1, 50, 200, 399, 400))
		for _, pull := range [][]int{{-f.Off, f.Off}, {f.Off}, {d.roll(-f.Off, f.Off), -f.Off, f.Off}, {d.roll(-f.Off, f.Off), d.roll(-f.Off, f.Off), 0}} {
			truth := changed(f, func(n int) int { return n + d.pick(pull...) })
			truth.Off = 0
			for _, b := range blocks(f) {
				if n, m := index(t, f, b), index(t, truth, b); n != m {
					t.Fatalf("%v has the index %d in %v, and %d in the truth %v", b, n, f, m, truth)
				}
			}
		}
	}
}

// P9.1, P9.6, G3: where a field is not certain, there are truths in which the turn between
// two neighbors is Turn / 2, or brought to the other side: certain fields have none.
func TestUncertain(t *testing.T) {
	f := field(2, 2, 300, 0, 1200, 0, 0)
	if e := ore.Check(f); e != api.ErrLost {
		t.Errorf("Check %d", e)
	}
	truth := field(2, 2, 0, 3300, 1500, 0, 0)
	if e := ore.Check(truth); e != api.ErrLost {
		t.Errorf("Check of a truth %d", e)
	}
	f.Off = 299
	for _, first := range list(3301, 0, 299) {
		for _, second := range list(901, 1200, 1499) {
			truth := field(2, 2, 0, first, second, 0, 0)
			if ore.Check(f) != api.OK || index(t, f, cell(0, 0)) != index(t, truth, cell(0, 0)) {
				t.Errorf("another index with %d and %d", first, second)
			}
		}
	}
}

// P9.7: a block has at least as many ore cells as the amount of its index.
func TestAsMany(t *testing.T) {
	d := dice{6}
	for range 500 {
		f := d.good()
		cells, indices, _ := ore.Ore(f)
		if len(cells) != len(indices) {
			t.Fatalf("Ore(%v): %d cells, %d indices", f, len(cells), len(indices))
		}
		for _, b := range blocks(f) {
			within := 0
			for _, c := range cells {
				if inside(c, b) {
					within++
				}
			}
			if n := index(t, f, b); max(n, -n) > within {
				t.Fatalf("%v: %v has the index %d, and %d ore cells", f, b, n, within)
			}
		}
	}
}

// P9.4, P9.8, G7: what is found is ore of the block, by at most as many needles as the
// cost says, and by a walk of best cuts.
func TestFindAgainstDefinition(t *testing.T) {
	d := dice{7}
	costs := trueCosts()
	count := map[api.Errno]int{}
	for range 300 {
		f := d.good()
		all, _, _ := ore.Ore(f)
		for range 20 {
			b := d.part(f)
			c, n, e := ore.Find(f, b)
			count[e]++
			if trueIndex(f, b) == 0 {
				if c != (ore.Block{}) || n != 0 || e != api.ErrNone {
					t.Fatalf("Find(%v, %v) = %v %d %d", f, b, c, n, e)
				}
				continue
			}
			cost, _ := ore.Cost(b.W, b.H)
			if e != api.OK || !inside(c, b) || !slices.Contains(all, c) || n < 0 || n > cost {
				t.Fatalf("Find(%v, %v) = %v %d %d, the cost is %d", f, b, c, n, e, cost)
			}
			if b.W*b.H <= 20 && !walks(f, b, costs)[found{c, n}] {
				t.Fatalf("Find(%v, %v) = %v %d, not by best cuts", f, b, c, n)
			}
		}
	}
	if min(count[api.OK], count[api.ErrNone]) < 500 {
		t.Errorf("too few of one kind: %v", count)
	}
}

// P9.8, G7: a single ore cell of one kind is found wherever it is, in the largest field.
func TestFindAnywhere(t *testing.T) {
	d := dice{8}
	for x := range 8 {
		for y := range 8 {
			f := field(9, 9, 0)
			for i := range 81 {
				f.Needles = append(f.Needles, direction(i%9-x, i/9-y))
			}
			for _, g := range []ore.Field{f, changed(f, func(n int) int { return -n - d.roll(0, 1) })} {
				if e := ore.Check(g); e != api.OK {
					t.Fatalf("%v: %d", g, e)
				}
				c, n, e := ore.Find(g, block(0, 0, 8, 8))
				if c != cell(x, y) || n < 0 || n > 15 || e != api.OK {
					t.Fatalf("Find(%v) = %v %d %d, want %d, %d", g, c, n, e, x, y)
				}
			}
		}
	}
}

// direction returns a direction away from the middle of the cell from 0, 0 to 1, 1, in
// steps of 900 and of a little.
func direction(x, y int) int {
	switch {
	case x > 0 && y > 0:
		return 1350 - 5*y + 5*x
	case x <= 0 && y > 0:
		return 2250 - 5*y + 5*x
	case x <= 0:
		return 3150 - 5*y + 5*x
	}
	return 450 - 5*y + 5*x
}

// P9.3: costs as the definition has them, and best cuts that reach them.
func TestCostAgainstDefinition(t *testing.T) {
	costs := trueCosts()
	for w := 1; w < ore.MaxSide; w++ {
		for h := 1; h < ore.MaxSide; h++ {
			want := costs[[2]int{w, h}]
			if n, e := ore.Cost(w, h); n != want || e != api.OK {
				t.Errorf("Cost(%d, %d) = %d %d, want %d", w, h, n, e, want)
			}
			c, e := ore.Best(w, h)
			if w*h == 1 {
				continue
			}
			if e != api.OK || !slices.Contains(allCuts(w, h), c) || price(costs, w, h, c) != want {
				t.Errorf("Best(%d, %d) = %v %d, want one that costs %d", w, h, c, e, want)
			}
		}
	}
}

// P9.9, G4: no cut costs less, and more columns or rows do not either.
func TestNoBetterCut(t *testing.T) {
	costs := map[[2]int]int{}
	for w := 1; w < ore.MaxSide; w++ {
		for h := 1; h < ore.MaxSide; h++ {
			costs[[2]int{w, h}], _ = ore.Cost(w, h)
		}
	}
	for size, cost := range costs {
		w, h := size[0], size[1]
		for _, c := range allCuts(w, h) {
			if price(costs, w, h, c) < cost {
				t.Errorf("%v costs less than %d: %v", c, cost, size)
			}
		}
		if w > 1 && costs[[2]int{w - 1, h}] > cost || h > 1 && costs[[2]int{w, h - 1}] > cost {
			t.Errorf("%d by %d: less than with one column or row less", w, h)
		}
		if costs[[2]int{h, w}] != cost {
			t.Errorf("%d by %d: not the cost of %d by %d", w, h, h, w)
		}
	}
}

// P9.10, G5: turned needles keep indices; negated ones, and columns or rows in the other
// order, or told as each other, make them opposite.
func TestTurned(t *testing.T) {
	d := dice{9}
	for range 400 {
		f := d.good()
		by := d.pick(1, 900, 1800, 3599, d.roll(0, 3599))
		turned := changed(f, func(n int) int { return n + by })
		negated := changed(f, func(n int) int { return -n })
		for _, b := range blocks(f) {
			x, y := f.Width-1-b.X-b.W, f.Height-1-b.Y-b.H
			n := index(t, f, b)
			same := list(index(t, turned, b), index(t, upended(mirrored(f)), block(x, y, b.W, b.H)))
			opposite := list(index(t, negated, b), index(t, mirrored(f), block(x, b.Y, b.W, b.H)), index(t, upended(f), block(b.X, y, b.W, b.H)), index(t, leaned(f), block(b.Y, b.X, b.H, b.W)))
			if !slices.Equal(same, list(n, n)) || !slices.Equal(opposite, list(-n, -n, -n, -n)) {
				t.Fatalf("%v has the index %d in %v, when turned %v, in the other order %v", b, n, f, same, opposite)
			}
		}
	}
}
