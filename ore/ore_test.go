package ore_test

import (
	"math"
	"slices"
	"testing"

	"agonic/api"
	"agonic/ore"
)

// Limits: the chapter's limits.
func TestLimits(t *testing.T) {
	if got := list(ore.MaxSide, ore.MaxOff); !slices.Equal(got, list(9, 400)) {
		t.Errorf("limits %v", got)
	}
}

// P9.1: turns in both ways, opposite numbers, and numbers that are none.
func TestTurn(t *testing.T) {
	for _, x := range []struct {
		from, to, want int
		e              api.Errno
	}{
		{0, 900, 900, api.OK},
		{900, 0, -900, api.OK},
		{3500, 100, 200, api.OK},
		{100, 3500, -200, api.OK},
		{0, 0, 0, api.OK},
		{3599, 3599, 0, api.OK},
		{3599, 0, 1, api.OK},
		{0, 3599, -1, api.OK},
		{0, 1799, 1799, api.OK},
		{1799, 0, -1799, api.OK},
		{0, 1801, -1799, api.OK},
		{1801, 0, 1799, api.OK},
		{1800, 3599, 1799, api.OK},
		{1799, 3598, 1799, api.OK},
		{0, 1800, 0, api.ErrLost},
		{1800, 0, 0, api.ErrLost},
		{1799, 3599, 0, api.ErrLost},
		{3599, 1799, 0, api.ErrLost},
		{700, 2500, 0, api.ErrLost},
		{-1, 0, 0, api.ErrRange},
		{0, -1, 0, api.ErrRange},
		{3600, 0, 0, api.ErrRange},
		{0, 3600, 0, api.ErrRange},
		// Both are out of range, or seem opposite.
		{-1, 3600, 0, api.ErrRange},
		{1800, 3600, 0, api.ErrRange},
		{-1800, 0, 0, api.ErrRange},
		{math.MinInt, math.MaxInt, 0, api.ErrRange},
		{math.MaxInt, math.MinInt, 0, api.ErrRange},
		{0, math.MinInt, 0, api.ErrRange},
	} {
		if n, e := ore.Turn(x.from, x.to); n != x.want || e != x.e {
			t.Errorf("Turn(%d, %d) = %d %d, want %d %d", x.from, x.to, n, e, x.want, x.e)
		}
	}
}

// P9.1: turns by their definition.
func TestTurnAgainstDefinition(t *testing.T) {
	for from := 0; from < api.Turn; from += 7 {
		for to := range api.Turn {
			want, e := trueTurn(from, to), api.OK
			if want == 1800 || want == -1800 {
				want, e = 0, api.ErrLost
			}
			if n, f := ore.Turn(from, to); n != want || f != e {
				t.Fatalf("Turn(%d, %d) = %d %d, want %d %d", from, to, n, f, want, e)
			}
		}
	}
}

// errorsOf returns the errors of all functions of a field, and expects zero values beside them.
func errorsOf(t *testing.T, f ore.Field, b ore.Block) []api.Errno {
	t.Helper()
	index, x := ore.Index(f, b)
	cells, indices, y := ore.Ore(f)
	found, read, z := ore.Find(f, b)
	if x != api.OK && index != 0 || y != api.OK && len(cells)+len(indices) > 0 || z != api.OK && (found != ore.Block{} || read != 0) {
		t.Errorf("%v %v, an error and %d, %v %v, %v %d", f, b, index, cells, indices, found, read)
	}
	return []api.Errno{ore.Check(f), y, x, z}
}

// P9.1, P9.2, P9.4: the first error of a field, also with other errors behind it, and of a block behind it.
func TestBadFields(t *testing.T) {
	for i, x := range []struct {
		f ore.Field
		e api.Errno
	}{
		{ore.Field{}, api.ErrRange},
		{field(1, 2, 0, 0, 0), api.ErrRange},
		{field(2, 1, 0, 0, 0), api.ErrRange},
		{field(10, 2, 0, make([]int, 20)...), api.ErrRange},
		{field(2, 10, 0, make([]int, 20)...), api.ErrRange},
		{field(-2, -2, 0, 0, 0, 0, 0), api.ErrRange},
		{field(2, 2, -1, 0, 0, 0, 0), api.ErrRange},
		{field(2, 2, 401, 0, 0, 0, 0), api.ErrRange},
		{field(2, 2, math.MinInt, 0, 0, 0, 0), api.ErrRange},
		{field(2, 2, math.MaxInt, 0, 0, 0, 0), api.ErrRange},
		{field(math.MaxInt, 2, 0, 0, 0), api.ErrRange},
		{field(2, math.MinInt, 0, 0, 0), api.ErrRange},
		{field(1<<32, 1<<32, 0), api.ErrRange},
		{field(2, 10, 0), api.ErrRange},
		{field(2, 2, 401, 0, 0, 0), api.ErrRange},
		{field(2, 2, 0), api.ErrShape},
		{field(2, 2, 0, 0, 0, 0), api.ErrShape},
		{field(2, 2, 0, 0, 0, 0, 0, 0), api.ErrShape},
		{field(3, 2, 0, 0, 0, 0, 0), api.ErrShape},
		{field(2, 2, 0, -1, 0, 1800), api.ErrShape},
		{field(2, 2, 0, 0, 0, 0, 0, 3600), api.ErrShape},
		{field(9, 9, 0, make([]int, 80)...), api.ErrShape},
		{field(2, 2, 0, -1, 0, 0, 0), api.ErrRange},
		{field(2, 2, 0, 0, 0, 0, 3600), api.ErrRange},
		{field(2, 2, 0, 0, 0, math.MinInt, 0), api.ErrRange},
		{field(2, 2, 0, 0, math.MaxInt, 0, 0), api.ErrRange},
		{field(2, 2, 0, 0, 1800, 0, 3600), api.ErrRange},
		{field(2, 2, 0, 0, 1800, 0, -1), api.ErrRange},
		// Neighbors in rows and in columns, in both ways, at every place of the field.
		{field(2, 2, 0, 0, 1800, 0, 0), api.ErrLost},
		{field(2, 2, 0, 1800, 0, 900, 900), api.ErrLost},
		{field(2, 2, 0, 0, 0, 1800, 0), api.ErrLost},
		{field(2, 2, 0, 5, 5, 5, 1805), api.ErrLost},
		{field(3, 2, 0, 900, 900, 0, 900, 900, 1800), api.ErrLost},
		{field(3, 2, 0, 900, 900, 900, 900, 0, 1800), api.ErrLost},
		{field(2, 3, 0, 900, 900, 900, 1800, 900, 0), api.ErrLost},
		{field(2, 3, 0, 900, 900, 0, 900, 1800, 900), api.ErrLost},
		// As far apart as Off does not allow.
		{field(2, 2, 1, 0, 1798, 0, 0), api.ErrLost},
		{field(2, 2, 1, 0, 0, 0, 1802), api.ErrLost},
		{field(2, 2, 400, 0, 1000, 0, 1000), api.ErrLost},
		{field(2, 2, 400, 0, 2600, 0, 2600), api.ErrLost},
		{field(2, 2, 200, 3000, 3000, 3000, 800), api.ErrLost},
	} {
		if e := trueCheck(x.f); e != x.e {
			t.Errorf("field %d: the definition says %d, not %d", i, e, x.e)
		}
		for _, b := range []ore.Block{cell(0, 0), block(0, 0, 0, 0), block(-1, 0, 1, 1)} {
			for j, e := range errorsOf(t, x.f, b) {
				if e != x.e {
					t.Errorf("field %d, function %d: %d, want %d", i, j, e, x.e)
				}
			}
		}
	}
}

// P9.1: the greatest and the smallest fields, and neighbors that are as far apart as can be.
func TestGoodFields(t *testing.T) {
	for i, f := range []ore.Field{
		example(),
		apart(),
		field(2, 2, 0, 0, 0, 0, 0),
		field(2, 9, 400, make([]int, 18)...),
		field(9, 2, 400, make([]int, 18)...),
		field(9, 9, 400, make([]int, 81)...),
		field(2, 2, 0, 3599, 3599, 3599, 3599),
		field(2, 2, 0, 0, 1799, 0, 1799),
		field(2, 2, 0, 0, 1801, 0, 1801),
		field(2, 2, 0, 0, 0, 1799, 1799),
		field(2, 2, 1, 0, 1797, 0, 0),
		field(2, 2, 400, 0, 999, 0, 999),
		field(2, 2, 400, 0, 2601, 0, 2601),
		// Opposite needles that are no neighbors: across a cell, around the end of a row, two columns apart.
		field(2, 2, 0, 0, 900, 900, 1800),
		field(2, 2, 0, 900, 0, 1800, 900),
		field(3, 2, 0, 900, 900, 0, 1800, 900, 900),
		field(3, 2, 0, 0, 900, 1800, 0, 900, 1800),
		field(2, 3, 0, 0, 0, 900, 900, 1800, 1800),
	} {
		if e := ore.Check(f); e != api.OK || trueCheck(f) != api.OK {
			t.Errorf("field %d: %d", i, e)
		}
	}
}

// P9.2, P9.4: blocks that are not of the field.
func TestBadBlocks(t *testing.T) {
	for i, b := range []ore.Block{
		{},
		block(0, 0, 0, 1),
		block(0, 0, 1, 0),
		block(1, 1, -1, 1),
		block(1, 1, 1, -1),
		block(2, 1, -2, -1),
		block(-1, 0, 1, 1),
		block(0, -1, 1, 1),
		block(-1, 0, 2, 1),
		block(0, -1, 1, 2),
		block(2, 0, 1, 1),
		block(0, 1, 1, 1),
		block(3, 0, 1, 1),
		block(0, 0, 3, 1),
		block(1, 0, 2, 1),
		block(0, 0, 1, 2),
		block(3, 2, -1, -1),
		block(math.MaxInt, 0, 1, 1),
		block(0, math.MaxInt, 1, 1),
		block(math.MinInt, 0, 1, 1),
		block(math.MinInt, math.MinInt, math.MinInt, math.MinInt),
		block(math.MaxInt, math.MaxInt, math.MaxInt, math.MaxInt),
		block(1, 0, math.MaxInt, 1),
		block(0, 0, 1, math.MaxInt),
		block(2, 1, math.MaxInt, math.MaxInt),
		block(1, 0, math.MinInt, 1),
		block(1, 0, 1<<62, 1<<62),
	} {
		if got := errorsOf(t, example(), b); !slices.Equal(got, []api.Errno{api.OK, api.OK, api.ErrRange, api.ErrRange}) {
			t.Errorf("block %d: %v", i, got)
		}
	}
}

// P9.2: indices of both kinds, of blocks that share ore, and of needles across 0.
func TestIndex(t *testing.T) {
	twice := field(3, 2, 0,
		0, 1200, 2400,
		2400, 1200, 0)
	thrice := field(3, 3, 0,
		0, 1350, 2700,
		2250, 0, 450,
		900, 3150, 1800)
	for i, x := range []struct {
		f    ore.Field
		b    ore.Block
		want int
	}{
		{example(), cell(0, 0), 1},
		{example(), cell(1, 0), 0},
		{example(), block(0, 0, 2, 1), 1},
		{apart(), cell(0, 0), 1},
		{apart(), cell(3, 0), -1},
		{apart(), cell(1, 0), 0},
		{apart(), block(0, 0, 3, 1), 1},
		{apart(), block(1, 0, 3, 1), -1},
		{apart(), block(0, 0, 4, 1), 0},
		{field(2, 2, 0, 0, 0, 0, 0), cell(0, 0), 0},
		{field(2, 2, 0, 0, 900, 2700, 1800), cell(0, 0), 1},
		{field(2, 2, 0, 0, 2700, 900, 1800), cell(0, 0), -1},
		{field(2, 2, 0, 3599, 899, 2699, 1799), cell(0, 0), 1},
		// A turn around by three steps, which are not the same; and nearly one.
		{field(2, 2, 0, 0, 1200, 0, 2400), cell(0, 0), 1},
		{field(2, 2, 0, 0, 1799, 0, 1801), cell(0, 0), 1},
		{field(2, 2, 0, 0, 1799, 0, 1799), cell(0, 0), 0},
		{field(2, 2, 400, 0, 900, 2700, 1800), cell(0, 0), 1},
		// Two and three times around, in both ways.
		{twice, block(0, 0, 2, 1), 2},
		{mirrored(twice), block(0, 0, 2, 1), -2},
		{leaned(twice), block(0, 0, 1, 2), -2},
		{thrice, block(0, 0, 2, 2), 3},
		{upended(thrice), block(0, 0, 2, 2), -3},
	} {
		if n, e := ore.Index(x.f, x.b); n != x.want || e != api.OK {
			t.Errorf("%d: Index %d %d, want %d", i, n, e, x.want)
		}
	}
}

// P9.2: ore from below, from left to right.
func TestOre(t *testing.T) {
	// Four cells around a point: each other one turns the other way.
	around := field(3, 3, 0,
		0, 900, 0,
		2700, 1800, 2700,
		0, 900, 0)
	for i, x := range []struct {
		f       ore.Field
		cells   []ore.Block
		indices []int
	}{
		{example(), []ore.Block{cell(0, 0)}, list(1)},
		{apart(), []ore.Block{cell(0, 0), cell(3, 0)}, list(1, -1)},
		{leaned(apart()), []ore.Block{cell(0, 0), cell(0, 3)}, list(-1, 1)},
		{around, []ore.Block{cell(0, 0), cell(1, 0), cell(0, 1), cell(1, 1)}, list(1, -1, -1, 1)},
		{mirrored(around), []ore.Block{cell(0, 0), cell(1, 0), cell(0, 1), cell(1, 1)}, list(1, -1, -1, 1)},
		{field(2, 2, 0, 7, 7, 7, 7), nil, nil},
		{field(9, 9, 400, make([]int, 81)...), nil, nil},
	} {
		cells, indices, e := ore.Ore(x.f)
		if !slices.Equal(cells, x.cells) || !slices.Equal(indices, x.indices) || e != api.OK {
			t.Errorf("%d: Ore %v %v %d, want %v %v", i, cells, indices, e, x.cells, x.indices)
		}
	}
}

// P9.3: costs and best cuts, and blocks that are none.
func TestCost(t *testing.T) {
	for _, x := range []struct{ w, h, want int }{{1, 1, 0}, {2, 1, 0}, {1, 2, 0}, {8, 1, 0}, {1, 8, 0}, {4, 1, 0}, {2, 2, 1}, {3, 2, 2}, {2, 3, 2}, {4, 2, 2}, {5, 2, 3}, {2, 8, 3}, {3, 3, 4}, {4, 4, 5}, {8, 8, 15}} {
		if n, e := ore.Cost(x.w, x.h); n != x.want || e != api.OK {
			t.Errorf("Cost(%d, %d) = %d %d, want %d", x.w, x.h, n, e, x.want)
		}
	}
	for _, x := range [][2]int{{0, 1}, {1, 0}, {0, 0}, {9, 1}, {1, 9}, {9, 9}, {-1, 1}, {1, -1}, {-1, -1}, {math.MinInt, 1}, {1, math.MaxInt}, {math.MaxInt, math.MinInt}} {
		if n, e := ore.Cost(x[0], x[1]); n != 0 || e != api.ErrRange {
			t.Errorf("Cost%v = %d %d", x, n, e)
		}
		if c, e := ore.Best(x[0], x[1]); c != (ore.Cut{}) || e != api.ErrRange {
			t.Errorf("Best%v = %v %d", x, c, e)
		}
	}
}

// P9.3: blocks with a single best cut, and one cell, which has none.
func TestBest(t *testing.T) {
	for _, x := range []struct {
		w, h int
		want ore.Cut
		e    api.Errno
	}{
		{1, 1, ore.Cut{}, api.ErrShut},
		{2, 1, ore.Cut{Up: true, At: 1}, api.OK},
		{1, 2, ore.Cut{Up: false, At: 1}, api.OK},
		{4, 2, ore.Cut{Up: true, At: 2}, api.OK},
		{2, 4, ore.Cut{Up: false, At: 2}, api.OK},
		{8, 2, ore.Cut{Up: true, At: 4}, api.OK},
		{2, 8, ore.Cut{Up: false, At: 4}, api.OK},
	} {
		if c, e := ore.Best(x.w, x.h); c != x.want || e != x.e {
			t.Errorf("Best(%d, %d) = %v %d, want %v %d", x.w, x.h, c, e, x.want, x.e)
		}
	}
}

// P9.4: blocks with a single ore cell, and blocks whose index is 0 in spite of ore.
func TestFind(t *testing.T) {
	vein := field(4, 3, 0,
		0, 0, 0, 0,
		0, 0, 900, 900,
		0, 2700, 1800, 1350)
	for i, x := range []struct {
		f     ore.Field
		b     ore.Block
		want  ore.Block
		reads []int
	}{
		{example(), block(0, 0, 2, 1), cell(0, 0), list(0)},
		{example(), cell(0, 0), cell(0, 0), list(0)},
		{apart(), block(0, 0, 3, 1), cell(0, 0), list(0)},
		{apart(), block(1, 0, 3, 1), cell(3, 0), list(0)},
		{apart(), block(2, 0, 2, 1), cell(3, 0), list(0)},
		{leaned(apart()), block(0, 1, 1, 3), cell(0, 3), list(0)},
		{vein, block(0, 0, 2, 2), cell(1, 1), list(1)},
		{vein, block(1, 0, 2, 2), cell(1, 1), list(1)},
		// An upright cut after one column leaves one by two cells, or two by two.
		{vein, block(0, 0, 3, 2), cell(1, 1), list(1, 2)},
		{vein, block(0, 1, 3, 1), cell(1, 1), list(0)},
	} {
		c, n, e := ore.Find(x.f, x.b)
		if c != x.want || !slices.Contains(x.reads, n) || e != api.OK {
			t.Errorf("%d: Find %v %d %d, want %v %v", i, c, n, e, x.want, x.reads)
		}
	}
	for i, x := range []struct {
		f ore.Field
		b ore.Block
		e api.Errno
	}{
		{example(), cell(1, 0), api.ErrNone},
		{apart(), block(0, 0, 4, 1), api.ErrNone},
		{apart(), block(1, 0, 2, 1), api.ErrNone},
		{apart(), block(0, 0, 5, 1), api.ErrRange},
		{apart(), block(1, 0, 2, 2), api.ErrRange},
	} {
		if got := errorsOf(t, x.f, x.b); got[3] != x.e {
			t.Errorf("error %d: Find %d, want %d", i, got[3], x.e)
		}
	}
}
