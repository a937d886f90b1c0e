package chart_test

import (
	"math"
	"reflect"
	"slices"
	"testing"

	"agonic/api"
	"agonic/chart"
)

// answers calls all functions of a chart, and returns what they return.
func answers(c chart.Chart, three chart.Triangle, x, y int) []any {
	a, b := chart.Triangles(c)
	d, e := chart.Rim(c)
	f, g := chart.Against(c, three)
	h, i := chart.Locate(c, x, y)
	j, k, l := chart.At(c, x, y)
	return []any{chart.Check(c), a, b, d, e, f, g, h, i, j, k, l}
}

// R3: a nil list and a list without elements mean the same.
func TestNilLists(t *testing.T) {
	three := chart.Triangle{0, 1, 2}
	if x, y := answers(nil, three, 0, 0), answers(chart.Chart{}, three, 0, 0); !reflect.DeepEqual(x, y) {
		t.Errorf("nil list: %v, empty one: %v", x, y)
	}
}

// R4: arguments stay as they are, and results share no memory with later results.
func TestMemory(t *testing.T) {
	d := dice{17}
	for range 1000 {
		c := d.chart()
		kept, three := slices.Clone(c), chart.Triangle{0, 1, 2}
		x, y := d.place(c)
		first, second := answers(c, three, x, y), answers(c, three, x, y)
		all, rim := second[1].([]chart.Triangle), second[3].([]int)
		for i := range all {
			all[i] = chart.Triangle{77777, 77777, 77777}
		}
		for i := range rim {
			rim[i] = 77777
		}
		if !slices.Equal(c, kept) || !reflect.DeepEqual(first, answers(c, three, x, y)) {
			t.Fatalf("arguments changed, or results share memory: %v", kept)
		}
	}
}

// R4: a list's room behind its end stays as it is.
func TestRoomBehind(t *testing.T) {
	behind := example()
	answers(behind[:3], chart.Triangle{0, 1, 2}, 1, 1)
	if !slices.Equal(behind, example()) {
		t.Errorf("argument changed: %v", behind)
	}
}

// P1, R5: all functions terminate without a panic, for numbers and sizes of all kinds, and equal arguments yield equal results.
func TestAnyArguments(t *testing.T) {
	d := dice{18}
	number := func(n, rare int) int {
		if d.roll(0, rare) == 0 {
			return d.pick(math.MinInt, math.MaxInt, -1, 0, 101, -101, 20001, 1<<50, -1<<62)
		}
		return n
	}
	count := map[api.Errno]int{}
	for range 10000 {
		c := d.wild()
		if d.roll(0, 5) == 0 {
			i := d.roll(0, len(c)-1)
			c[i] = chart.Station{X: number(c[i].X, 3), Y: number(c[i].Y, 3), Variation: api.Span{Lo: number(0, 3), Hi: number(5, 3)}}
		}
		if d.roll(0, 20) == 0 {
			c = slices.Repeat(c, d.roll(0, 4))
		}
		three := chart.Triangle{number(d.roll(0, 2), 9), number(d.roll(1, 5), 9), number(d.roll(2, 8), 9)}
		x, y := number(d.roll(-9, 9), 9), number(d.roll(-9, 9), 9)
		first := answers(c, three, x, y)
		answers(example(), chart.Triangle{0, 1, 2}, 4, 1)
		if !reflect.DeepEqual(first, answers(c, three, x, y)) {
			t.Fatalf("different results: %v %v %d %d", c, three, x, y)
		}
		for _, i := range list(0, 6, 8) {
			e, _ := first[i].(api.Errno)
			count[e]++
		}
	}
	for _, e := range []api.Errno{api.OK, api.ErrRange, api.ErrMany, api.ErrNone, api.ErrTwice, api.ErrClash, api.ErrLost, api.ErrFlat} {
		if count[e] < 50 {
			t.Errorf("too few of one kind: %v", count)
		}
	}
}

// P1, R5: Side and Inside, for numbers of all kinds.
func TestAnyStations(t *testing.T) {
	d := dice{19}
	number := func() int {
		return d.pick(math.MinInt, math.MaxInt, -100, 100, -101, 101, 0, 1, d.roll(-100, 100), d.roll(-100, 100))
	}
	for range 20000 {
		var c chart.Chart
		for range 4 {
			c = append(c, chart.Station{X: number(), Y: number(), Variation: api.Span{Lo: number(), Hi: number()}})
		}
		side, inside := api.OK, api.OK
		if slices.ContainsFunc(c[:3], func(s chart.Station) bool { return !isPlace(s) }) {
			side = api.ErrRange
		}
		if side == api.ErrRange || !isPlace(c[3]) {
			inside = api.ErrRange
		} else if left(c[0], c[1], c[2]) == 0 {
			inside = api.ErrFlat
		}
		n, e := chart.Side(c[0], c[1], c[2])
		m, f := chart.Inside(c[0], c[1], c[2], c[3])
		if e != side || f != inside || e != api.OK && n != 0 || f != api.OK && m != 0 {
			t.Fatalf("%v: Side %d %d, Inside %d %d", c, n, e, m, f)
		}
	}
}

// isPlace reports whether a station is on the map; the negative of the smallest int is that int itself.
func isPlace(s chart.Station) bool {
	return s.X > math.MinInt && s.Y > math.MinInt && onMap(s.X, s.Y)
}
