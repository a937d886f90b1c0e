package chart_test

import (
	"math"
	"slices"
	"testing"

	"agonic/api"
	"agonic/chart"
)

// Terms, Limits: the chapter's limits.
func TestLimits(t *testing.T) {
	if got := list(chart.MaxPlace, chart.MaxVariation, chart.MaxStations); !slices.Equal(got, list(100, 20000, 12)) {
		t.Errorf("limits %v", got)
	}
}

// outside are numbers that are no coordinates.
func outside() []int { return list(101, -101, math.MinInt, math.MaxInt) }

// P7.1: one station off the map, whichever one it is, also if the others are on one line.
func TestBadPlaces(t *testing.T) {
	for _, others := range []chart.Chart{places(0, 0, 10, 0, 0, 10, 4, 3), line(), make(chart.Chart, 4)} {
		for i := range others {
			for _, far := range outside() {
				for _, s := range []chart.Station{at(far, 0), at(0, far), at(far, far)} {
					c := slices.Clone(others)
					c[i] = s
					n, e := chart.Inside(c[0], c[1], c[2], c[3])
					if n != 0 || e != api.ErrRange {
						t.Errorf("Inside(%v) = %d %d", c, n, e)
					}
					if n, e = chart.Side(c[0], c[1], c[2]); i < 3 && (n != 0 || e != api.ErrRange) {
						t.Errorf("Side(%v) = %d %d", c, n, e)
					}
				}
			}
		}
	}
}

// P7.1: left, right and neither of both, also at the ends of the map.
func TestSide(t *testing.T) {
	for i, x := range []struct {
		c    chart.Chart
		want int
	}{
		{places(0, 0, 10, 0, 0, 10), 1},
		{places(10, 0, 0, 0, 0, 10), -1},
		{places(0, 0, 0, 5, -1, 9), 1},
		{places(0, 0, 0, 5, 1, -9), -1},
		{places(0, 0, 0, -5, 1, 9), 1},
		{places(0, 0, 3, 2, 6, 4), 0},
		{places(0, 0, 3, 2, -3, -2), 0},
		{places(0, 0, 3, 2, 6, 5), 1},
		{places(0, 0, 3, 2, 6, 3), -1},
		{places(2, 2, 2, 2, 7, 9), 0},
		{places(2, 2, 7, 9, 2, 2), 0},
		{places(7, 9, 2, 2, 2, 2), 0},
		{places(2, 2, 2, 2, 2, 2), 0},
		{places(-100, -100, 100, 100, 99, 100), 1},
		{places(-100, -100, 100, 100, 100, 99), -1},
		{places(100, -100, -100, 100, 0, 0), 0},
		{places(100, -100, -100, 100, -100, -100), 1},
	} {
		if n, e := chart.Side(x.c[0], x.c[1], x.c[2]); n != x.want || e != api.OK {
			t.Errorf("Side %d: %d %d, want %d", i, n, e, x.want)
		}
	}
}

// P7.1: stations inside a circle, on it and outside, with corners of either orientation, and corners on one line.
func TestInside(t *testing.T) {
	for i, x := range []struct {
		c    chart.Chart
		want int
		e    api.Errno
	}{
		{places(0, 0, 10, 0, 0, 10, 4, 3), 1, api.OK},
		{places(0, 0, 10, 0, 0, 10, 9, 9), 1, api.OK},
		{places(0, 0, 0, 10, 10, 0, 9, 9), 1, api.OK},
		{places(0, 0, 10, 0, 0, 10, 10, 10), 0, api.OK},
		{places(0, 10, 10, 0, 0, 0, 10, 10), 0, api.OK},
		{places(0, 0, 10, 0, 0, 10, 10, 11), -1, api.OK},
		{places(10, 0, 0, 0, 0, 10, 10, 11), -1, api.OK},
		{places(0, 0, 10, 0, 0, 10, 0, 0), 0, api.OK},
		{places(0, 0, 10, 0, 0, 10, 10, 0), 0, api.OK},
		{places(0, 0, 10, 0, 0, 10, 0, 10), 0, api.OK},
		// Outside of the triangle, but inside the circle; beside a corner.
		{places(0, 0, 10, 0, 0, 10, -1, 2), 1, api.OK},
		{places(0, 0, 10, 0, 0, 10, -1, 1), -1, api.OK},
		{places(0, 0, 10, 0, 0, 10, -1, 0), -1, api.OK},
		{places(0, 0, 10, 0, 0, 10, 5, -2), 1, api.OK},
		{places(0, 0, 10, 0, 0, 10, 5, -3), -1, api.OK},
		{places(65, 0, 63, 16, 60, 25, -16, -63), 0, api.OK},
		{places(65, 0, 63, 16, 60, 25, -16, -62), 1, api.OK},
		{places(65, 0, 63, 16, 60, 25, -17, -63), -1, api.OK},
		// The greatest numbers, and circles that are nearly lines.
		{places(-100, -100, 100, -100, -100, 100, 100, 100), 0, api.OK},
		{places(-100, -100, 100, -100, -100, 100, 100, 99), 1, api.OK},
		{places(-100, -100, 0, -99, 100, -100, -100, 100), -1, api.OK},
		{places(-100, -100, 0, -99, 100, -100, 0, -100), 1, api.OK},
		{places(-100, -100, 0, -100, 100, -99, 50, -100), -1, api.OK},
		{places(-100, -100, 0, -100, 100, -99, -50, -100), 1, api.OK},
		{places(-100, -100, 0, -100, 100, -99, -100, 100), 1, api.OK},
		{places(0, 0, 1, 1, 2, 2, 9, 9), 0, api.ErrFlat},
		{places(0, 0, 1, 1, 2, 2, 9, 0), 0, api.ErrFlat},
		{places(5, 5, 5, 5, 2, 0, 9, 0), 0, api.ErrFlat},
		{places(5, 5, 2, 0, 5, 5, 9, 0), 0, api.ErrFlat},
		{places(2, 0, 5, 5, 5, 5, 9, 0), 0, api.ErrFlat},
		{places(5, 5, 5, 5, 5, 5, 5, 5), 0, api.ErrFlat},
	} {
		if n, e := chart.Inside(x.c[0], x.c[1], x.c[2], x.c[3]); n != x.want || e != x.e {
			t.Errorf("Inside %d: %d %d, want %d %d", i, n, e, x.want, x.e)
		}
	}
}

// P7.1: variations do not matter, even if they are none.
func TestVariationsDoNotMatter(t *testing.T) {
	for _, v := range []api.Span{{Lo: 1, Hi: 0}, {Lo: -20001}, {Hi: 20001}, {Lo: math.MinInt, Hi: math.MaxInt}} {
		c := places(0, 0, 10, 0, 0, 10, 4, 3)
		for i := range c {
			c[i].Variation = v
		}
		n, e := chart.Side(c[0], c[1], c[2])
		m, f := chart.Inside(c[0], c[1], c[2], c[3])
		if n != 1 || e != api.OK || m != 1 || f != api.OK {
			t.Errorf("%v: Side %d %d, Inside %d %d", v, n, e, m, f)
		}
	}
}

type badChart struct {
	c chart.Chart
	e api.Errno
}

// changed returns the example with another station.
func changed(i int, s chart.Station) chart.Chart {
	c := example()
	c[i] = s
	return c
}

// varying returns the example with other variations of one station.
func varying(i, lo, hi int) chart.Chart {
	c := example()
	c[i].Variation = api.Span{Lo: lo, Hi: hi}
	return c
}

// badCharts are charts with errors, in the order in which they are examined.
func badCharts() []badChart {
	out := []badChart{
		{make(chart.Chart, 13), api.ErrMany},
		{slices.Repeat(chart.Chart{at(101, 0)}, 13), api.ErrMany},
		{make(chart.Chart, 12), api.ErrTwice},
		{varying(0, 1, 0), api.ErrRange},
		{varying(4, 20000, -20000), api.ErrRange},
		{varying(0, -20001, 0), api.ErrRange},
		{varying(2, -20001, -20001), api.ErrRange},
		{varying(4, 0, 20001), api.ErrRange},
		{varying(4, 20001, 20001), api.ErrRange},
		{varying(1, math.MinInt, 0), api.ErrRange},
		{varying(1, 0, math.MaxInt), api.ErrRange},
		{changed(3, at(0, 0)), api.ErrTwice},
		{changed(4, at(9, 9)), api.ErrTwice},
		// The first station with an error decides.
		{places(0, 0, 101, 0, 0, 0), api.ErrRange},
		{places(0, 0, 0, 0, 101, 0), api.ErrTwice},
		{with(places(0, 0, 0, 0), 0, 0, 1, 0), api.ErrRange},
		{append(square(), at(5, 5)), api.ErrTwice},
		{append(square(), at(0, -101)), api.ErrRange},
		{append(line(), at(5, 5)), api.ErrTwice},
		{nil, api.ErrFlat},
		{chart.Chart{}, api.ErrFlat},
		{places(1, 2), api.ErrFlat},
		{places(0, 0, 1, 1), api.ErrFlat},
		{places(0, 0, 0, 0), api.ErrTwice},
		{line(), api.ErrFlat},
		{places(7, 0, 7, 100, 7, -100), api.ErrFlat},
		{places(-100, 3, 100, 3, 0, 3, 1, 3, 2, 3), api.ErrFlat},
		{places(-1, 2, -3, 6, 50, -100), api.ErrFlat},
		{square(), api.ErrClash},
		{places(-100, -100, 100, -100, 100, 100, -100, 100), api.ErrClash},
		{places(65, 0, 63, 16, 60, 25, -16, -63), api.ErrClash},
		{places(5, 0, 3, 4, -3, 4, -5, 0, 0, -5), api.ErrClash},
		// A station outside of the circle does not help, wherever it is in the list.
		{append(square(), at(9, 1)), api.ErrClash},
		{append(places(9, 1, -1, 3), square()...), api.ErrClash},
		// Nor does a station inside one of two circles.
		{append(square(), places(2, 1, 20, 20, 22, 20, 20, 22, 22, 22)...), api.ErrClash},
	}
	for i := range 5 {
		for _, far := range outside() {
			out = append(out, badChart{changed(i, at(far, 0)), api.ErrRange}, badChart{changed(i, at(0, far)), api.ErrRange})
		}
	}
	return out
}

// failures returns the errors of all functions of a chart, and expects zero values beside them.
func failures(t *testing.T, c chart.Chart, three chart.Triangle, x, y int) []api.Errno {
	t.Helper()
	all, a := chart.Triangles(c)
	rim, b := chart.Rim(c)
	against, d := chart.Against(c, three)
	in, e := chart.Locate(c, x, y)
	lo, hi, f := chart.At(c, x, y)
	if a != api.OK && len(all) > 0 || b != api.OK && len(rim) > 0 || d != api.OK && against != 0 || e != api.OK && in != (chart.Triangle{}) || f != api.OK && (lo != part(0, 0) || hi != part(0, 0)) {
		t.Errorf("%v, an error and %v, %v, %v, %v, %v, %v", c, all, rim, against, in, lo, hi)
	}
	return []api.Errno{chart.Check(c), a, b, d, e, f}
}

// P7.2, and the first error of each function, also if there are others.
func TestBadCharts(t *testing.T) {
	for i, x := range badCharts() {
		for _, three := range triangles(0, 1, 2, -1, 99, 5, 2, 1, 0) {
			for _, y := range list(0, 101, -50) {
				for j, e := range failures(t, x.c, three, 0, y) {
					if e != x.e {
						t.Errorf("chart %d, function %d: %d, want %d", i, j, e, x.e)
					}
				}
			}
		}
	}
}

// P7.2: charts without errors.
func TestGoodCharts(t *testing.T) {
	for i, c := range []chart.Chart{
		example(),
		places(0, 0, 1, 0, 0, 1),
		places(-100, -100, 100, -100, -100, 100),
		places(-100, -100, 0, -99, 100, -100),
		varying(4, -20000, 20000),
		varying(0, -20000, -20000),
		varying(0, 20000, 20000),
		// With a station inside, four on a circle do no harm, wherever it is in the list.
		append(square(), at(2, 1)),
		append(places(2, 1), square()...),
		places(0, 0, 5, 0, 2, 1, 5, 5, 0, 5),
		// More than three stations on one line.
		places(0, 0, 4, 0, 9, 0, 15, 0, 3, 5),
		places(0, 0, 7, 1, 20, 3, 33, -2, 41, 7, 60, 0, -5, 30, -40, 11, -61, -9, 13, 57, 31, -70, -20, -45),
	} {
		if got := failures(t, c, chart.Triangle{0, 1, len(c)}, 0, 101); !slices.Equal(got, []api.Errno{0, 0, 0, api.ErrNone, api.ErrRange, api.ErrRange}) {
			t.Errorf("chart %d: %v", i, got)
		}
	}
}

// P7.3: triangles and rims, with stations inside, on sides of the rim, and in another order.
func TestTrianglesAndRim(t *testing.T) {
	for i, x := range []struct {
		c    chart.Chart
		want []chart.Triangle
		rim  []int
	}{
		{example(), triangles(0, 1, 4, 0, 2, 4, 1, 3, 4, 2, 3, 4), list(0, 1, 3, 2)},
		{places(0, 0, 1, 0, 0, 1), triangles(0, 1, 2), list(0, 1, 2)},
		{places(0, 0, 0, 1, 1, 0), triangles(0, 1, 2), list(0, 2, 1)},
		{places(-100, -100, 0, -99, 100, -100), triangles(0, 1, 2), list(0, 2, 1)},
		// The first station is inside.
		{places(4, 3, 0, 0, 10, 0, 0, 10), triangles(0, 1, 2, 0, 1, 3, 0, 2, 3), list(1, 2, 3)},
		{places(4, 3, 0, 10, 10, 0, 0, 0), triangles(0, 1, 2, 0, 1, 3, 0, 2, 3), list(1, 3, 2)},
		// A kite.
		{places(0, -3, 9, 0, 0, 3, -4, 0), triangles(0, 1, 2, 0, 2, 3), list(0, 1, 2, 3)},
		{places(0, -4, 9, 0, 0, 3, -2, 0), triangles(0, 1, 2, 0, 2, 3), list(0, 1, 2, 3)},
		// Stations on sides of the rim, from the left, from the right, and in any order.
		{places(0, 0, 4, 0, 9, 0, 3, 5), triangles(0, 1, 3, 1, 2, 3), list(0, 1, 2, 3)},
		{places(3, 5, 9, 0, 4, 0, 0, 0), triangles(0, 1, 2, 0, 2, 3), list(0, 3, 2, 1)},
		{places(9, 0, 0, 0, 15, 0, 4, 0, 3, 5), triangles(0, 2, 4, 0, 3, 4, 1, 3, 4), list(0, 2, 4, 1, 3)},
		{places(9, 0, 0, 0, 15, 0, 4, 0, 3, -5), triangles(0, 2, 4, 0, 3, 4, 1, 3, 4), list(0, 3, 1, 4, 2)},
		{places(0, 9, 0, 0, 0, 15, 0, 4, 5, 3), triangles(0, 2, 4, 0, 3, 4, 1, 3, 4), list(0, 3, 1, 4, 2)},
		// Four stations on a circle, with one inside it.
		{append(square(), at(2, 1)), triangles(0, 1, 4, 0, 3, 4, 1, 2, 4, 2, 3, 4), list(0, 1, 2, 3)},
		{append(places(2, 1), square()...), triangles(0, 1, 2, 0, 1, 4, 0, 2, 3, 0, 3, 4), list(1, 2, 3, 4)},
	} {
		l, e := chart.Triangles(x.c)
		r, f := chart.Rim(x.c)
		if !slices.Equal(l, x.want) || e != api.OK || !slices.Equal(r, x.rim) || f != api.OK {
			t.Errorf("%d: Triangles %v %d, Rim %v %d, want %v and %v", i, l, e, r, f, x.want, x.rim)
		}
	}
}

// P7.4: stations inside circles, triangles, and indices that are none.
func TestAgainst(t *testing.T) {
	least, most := math.MinInt, math.MaxInt
	for i, x := range []struct {
		c    chart.Chart
		t    chart.Triangle
		want int
		e    api.Errno
	}{
		{example(), chart.Triangle{0, 1, 2}, 3, api.OK},
		{example(), chart.Triangle{0, 1, 3}, 4, api.OK},
		{example(), chart.Triangle{1, 2, 3}, 0, api.OK},
		{example(), chart.Triangle{1, 2, 4}, 3, api.OK},
		{example(), chart.Triangle{0, 1, 4}, 0, api.ErrLost},
		{example(), chart.Triangle{0, 2, 4}, 0, api.ErrLost},
		{example(), chart.Triangle{1, 3, 4}, 0, api.ErrLost},
		{example(), chart.Triangle{2, 3, 4}, 0, api.ErrLost},
		// No stations.
		{example(), chart.Triangle{0, 1, 5}, 0, api.ErrNone},
		{example(), chart.Triangle{-1, 1, 2}, 0, api.ErrNone},
		{example(), chart.Triangle{0, -1, 2}, 0, api.ErrNone},
		{example(), chart.Triangle{0, 1, -1}, 0, api.ErrNone},
		{example(), chart.Triangle{5, 6, 7}, 0, api.ErrNone},
		{example(), chart.Triangle{0, 1, most}, 0, api.ErrNone},
		{example(), chart.Triangle{least, 1, 2}, 0, api.ErrNone},
		{places(0, 0, 1, 0, 0, 1), chart.Triangle{0, 1, 3}, 0, api.ErrNone},
		// Not in ascending order.
		{example(), chart.Triangle{}, 0, api.ErrTwice},
		{example(), chart.Triangle{0, 2, 1}, 0, api.ErrTwice},
		{example(), chart.Triangle{1, 0, 4}, 0, api.ErrTwice},
		{example(), chart.Triangle{4, 1, 0}, 0, api.ErrTwice},
		{example(), chart.Triangle{0, 1, 1}, 0, api.ErrTwice},
		{example(), chart.Triangle{1, 1, 2}, 0, api.ErrTwice},
		// The first index with an error decides.
		{example(), chart.Triangle{3, 3, 9}, 0, api.ErrTwice},
		{example(), chart.Triangle{3, 2, -1}, 0, api.ErrTwice},
		{example(), chart.Triangle{-1, -1, 1}, 0, api.ErrNone},
		{example(), chart.Triangle{5, 4, 4}, 0, api.ErrNone},
		{example(), chart.Triangle{3, 9, 9}, 0, api.ErrNone},
		// On one line.
		{places(0, 0, 4, 0, 9, 0, 3, 5), chart.Triangle{0, 1, 2}, 0, api.ErrFlat},
		{places(3, 5, 9, 0, 0, 0, 4, 0), chart.Triangle{1, 2, 3}, 0, api.ErrFlat},
		{places(3, 5, 9, 0, 0, 0, 4, 0), chart.Triangle{1, 3, 2}, 0, api.ErrTwice},
		{places(3, 5, 9, 0, 0, 0, 4, 0), chart.Triangle{0, 1, 2}, 3, api.OK},
		// Four on a circle: only the one inside it shows that three others are no triangle.
		{append(square(), at(2, 1)), chart.Triangle{0, 1, 2}, 4, api.OK},
		{append(places(2, 1), square()...), chart.Triangle{1, 2, 3}, 0, api.OK},
		{append(places(2, 1), square()...), chart.Triangle{0, 1, 2}, 0, api.ErrLost},
		// The first one of several stations inside a circle.
		{places(0, 0, 30, 0, 0, 30, 10, 11, 12, 9, 31, 31), chart.Triangle{0, 1, 2}, 3, api.OK},
		{places(12, 9, 0, 0, 31, 31, 30, 0, 10, 11, 0, 30), chart.Triangle{1, 3, 5}, 0, api.OK},
		{places(31, 31, 0, 0, 12, 9, 30, 0, 10, 11, 0, 30), chart.Triangle{1, 3, 5}, 2, api.OK},
	} {
		if k, e := chart.Against(x.c, x.t); k != x.want || e != x.e {
			t.Errorf("Against %d: %d %d, want %d %d", i, k, e, x.want, x.e)
		}
	}
}

// P7.5: points in triangles, on sides, at stations, outside of the area and of the map.
func TestLocateAndAt(t *testing.T) {
	wide := with(places(-100, -100, 100, -100, 3, 100), -20000, 20000, -20000, -19999, 19999, 20000)
	for i, x := range []struct {
		c      chart.Chart
		x, y   int
		in     chart.Triangle
		lo, hi api.Ratio
		e      api.Errno
	}{
		{example(), 0, 0, chart.Triangle{0, 1, 4}, part(0, 1), part(0, 1), api.OK},
		{example(), 5, 0, chart.Triangle{0, 1, 4}, part(50, 1), part(50, 1), api.OK},
		{example(), 4, 3, chart.Triangle{0, 1, 4}, part(50, 1), part(50, 1), api.OK},
		{example(), 10, 0, chart.Triangle{0, 1, 4}, part(100, 1), part(100, 1), api.OK},
		{example(), 0, 10, chart.Triangle{0, 2, 4}, part(200, 1), part(200, 1), api.OK},
		{example(), 9, 9, chart.Triangle{1, 3, 4}, part(90, 1), part(110, 1), api.OK},
		{example(), 4, 1, chart.Triangle{0, 1, 4}, part(130, 3), part(130, 3), api.OK},
		{example(), 0, 5, chart.Triangle{0, 2, 4}, part(100, 1), part(100, 1), api.OK},
		{example(), 9, 8, chart.Triangle{1, 3, 4}, part(4600, 51), part(5500, 51), api.OK},
		{example(), 5, 5, chart.Triangle{2, 3, 4}, part(4150, 59), part(4450, 59), api.OK},
		{example(), 10, 10, chart.Triangle{}, part(0, 0), part(0, 0), api.ErrLost},
		{example(), -1, 0, chart.Triangle{}, part(0, 0), part(0, 0), api.ErrLost},
		{example(), 0, -1, chart.Triangle{}, part(0, 0), part(0, 0), api.ErrLost},
		{example(), 11, 0, chart.Triangle{}, part(0, 0), part(0, 0), api.ErrLost},
		{example(), 10, 1, chart.Triangle{}, part(0, 0), part(0, 0), api.ErrLost},
		{example(), 1, 10, chart.Triangle{}, part(0, 0), part(0, 0), api.ErrLost},
		{example(), 100, 100, chart.Triangle{}, part(0, 0), part(0, 0), api.ErrLost},
		{example(), -100, -100, chart.Triangle{}, part(0, 0), part(0, 0), api.ErrLost},
		// A station on a side of the rim is a corner of two triangles.
		{with(places(0, 0, 4, 0, 9, 0, 3, 5), 0, 0, 7, 8, 100, 100, 9, 9), 4, 0, chart.Triangle{0, 1, 3}, part(7, 1), part(8, 1), api.OK},
		{with(places(0, 0, 4, 0, 9, 0, 3, 5), 0, 0, 7, 8, 100, 100, 9, 9), 5, 0, chart.Triangle{1, 2, 3}, part(128, 5), part(132, 5), api.OK},
		{with(places(0, 0, 4, 0, 9, 0, 3, 5), 0, 0, 7, 8, 100, 100, 9, 9), 10, 0, chart.Triangle{}, part(0, 0), part(0, 0), api.ErrLost},
		// The greatest numbers.
		{wide, -100, -100, chart.Triangle{0, 1, 2}, part(-20000, 1), part(20000, 1), api.OK},
		{wide, 3, 100, chart.Triangle{0, 1, 2}, part(19999, 1), part(20000, 1), api.OK},
		{wide, 0, -100, chart.Triangle{0, 1, 2}, part(-20000, 1), part(1, 2), api.OK},
		{wide, 1, 1, chart.Triangle{0, 1, 2}, part(39899, 200), part(408129797, 40000), api.OK},
	} {
		in, e := chart.Locate(x.c, x.x, x.y)
		lo, hi, f := chart.At(x.c, x.x, x.y)
		if in != x.in || e != x.e || lo != x.lo || hi != x.hi || f != x.e {
			t.Errorf("%d: Locate %v %d, At %v %v %d, want %v %v %v %d", i, in, e, lo, hi, f, x.in, x.lo, x.hi, x.e)
		}
	}
	for _, far := range outside() {
		if got := failures(t, example(), chart.Triangle{}, far, 0); !slices.Equal(got[4:], []api.Errno{api.ErrRange, api.ErrRange}) {
			t.Errorf("x %d: %v", far, got)
		}
		if got := failures(t, example(), chart.Triangle{}, 0, far); !slices.Equal(got[4:], []api.Errno{api.ErrRange, api.ErrRange}) {
			t.Errorf("y %d: %v", far, got)
		}
	}
}
