package ore_test

import (
	"math"
	"reflect"
	"slices"
	"testing"

	"agonic/api"
	"agonic/ore"
)

// answers calls all functions, and returns what they return.
func answers(f ore.Field, b ore.Block) []any {
	first, last := 0, 0
	if len(f.Needles) > 0 {
		first, last = f.Needles[0], f.Needles[len(f.Needles)-1]
	}
	a, c := ore.Turn(first, last)
	d, e := ore.Index(f, b)
	g, h, i := ore.Ore(f)
	j, k := ore.Cost(b.W, b.H)
	l, m := ore.Best(b.W, b.H)
	n, o, p := ore.Find(f, b)
	return []any{a, c, ore.Check(f), d, e, g, h, i, j, k, l, m, n, o, p}
}

// R3: a nil list and a list without elements mean the same.
func TestNilLists(t *testing.T) {
	for _, side := range list(0, 2) {
		x, y := answers(field(side, side, 0), cell(0, 0)), answers(field(side, side, 0, []int{}...), cell(0, 0))
		if !reflect.DeepEqual(x, y) {
			t.Errorf("nil list: %v, empty one: %v", x, y)
		}
	}
}

// R4: arguments stay as they are, and results share no memory with later results.
func TestMemory(t *testing.T) {
	d := dice{21}
	for range 1000 {
		f := d.good()
		kept, b := clone(f), d.part(f)
		first, second := answers(f, b), answers(f, b)
		cells, indices := second[5].([]ore.Block), second[6].([]int)
		for i := range cells {
			cells[i], indices[i] = block(7, 7, 7, 7), 77777
		}
		if !reflect.DeepEqual(f, kept) || !reflect.DeepEqual(first, answers(f, b)) {
			t.Fatalf("arguments changed, or results share memory: %v", kept)
		}
	}
}

// R4: a list's room behind its end stays as it is.
func TestRoomBehind(t *testing.T) {
	behind := apart()
	f := field(3, 2, 0)
	f.Needles = behind.Needles[:6]
	answers(f, cell(0, 0))
	if !reflect.DeepEqual(behind, apart()) {
		t.Errorf("argument changed: %v", behind)
	}
}

// P1, R5: all functions terminate without a panic, for numbers and sizes of all kinds, and
// equal arguments yield equal results with the errors of the promises.
func TestAnyArguments(t *testing.T) {
	d := dice{22}
	number := func(n, rare int) int {
		if d.roll(0, rare) == 0 {
			return d.pick(math.MinInt, math.MaxInt, -1, 0, 1, 9, 10, 401, 3600, 1<<50, -1<<62, 1<<62)
		}
		return n
	}
	count := map[api.Errno]int{}
	for range 10000 {
		f := d.good()
		b := d.part(f)
		b = block(number(b.X, 15), number(b.Y, 15), number(b.W, 15), number(b.H, 15))
		switch d.roll(0, 5) {
		case 0:
			i := d.roll(0, len(f.Needles)-1)
			f.Needles[i] = number(d.roll(0, 3599), 1)
		case 1:
			f.Width, f.Height, f.Off = number(f.Width, 9), number(f.Height, 9), number(f.Off, 9)
		case 2:
			f.Needles = slices.Repeat(f.Needles, d.roll(0, 2))
		}
		first := answers(f, b)
		answers(example(), cell(0, 0))
		if !reflect.DeepEqual(first, answers(f, b)) {
			t.Fatalf("different results: %v %v", f, b)
		}
		if want := errorsFor(f, b); !slices.Equal(want, []any{first[2], first[4], first[7], first[9], first[11], first[14]}) {
			t.Fatalf("%v %v: %v, want the errors %v", f, b, first, want)
		}
		for _, e := range errorsFor(f, b) {
			count[e.(api.Errno)]++
		}
	}
	for _, e := range []api.Errno{api.OK, api.ErrRange, api.ErrShape, api.ErrNone, api.ErrLost, api.ErrShut} {
		if count[e] < 100 {
			t.Errorf("too few of one kind: %v", count)
		}
	}
}

// errorsFor returns the errors of Check, Index, Ore, Cost, Best and Find by the promises.
func errorsFor(f ore.Field, b ore.Block) []any {
	check := trueCheck(f)
	index, find := check, check
	if check == api.OK && !slices.Contains(blocks(f), b) {
		index, find = api.ErrRange, api.ErrRange
	} else if check == api.OK && trueIndex(f, b) == 0 {
		find = api.ErrNone
	}
	cost, best := api.OK, api.OK
	if b.W < 1 || b.W > 8 || b.H < 1 || b.H > 8 {
		cost, best = api.ErrRange, api.ErrRange
	} else if b.W == 1 && b.H == 1 {
		best = api.ErrShut
	}
	return []any{check, index, check, cost, best, find}
}
