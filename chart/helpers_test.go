package chart_test

import (
	"math/big"
	"slices"
	"testing"

	"agonic/api"
	"agonic/chart"
)

func list(l ...int) []int { return l }

func part(num, den int) api.Ratio { return api.Ratio{Num: num, Den: den} }

// at returns a station with the variation 0.
func at(x, y int) chart.Station { return chart.Station{X: x, Y: y} }

// places returns a chart whose variations are 0: X and Y in turn.
func places(l ...int) chart.Chart {
	var out chart.Chart
	for i := 0; i+1 < len(l); i += 2 {
		out = append(out, at(l[i], l[i+1]))
	}
	return out
}

// with returns a chart with other variations: both ends in turn.
func with(c chart.Chart, l ...int) chart.Chart {
	out := slices.Clone(c)
	for i := range out {
		out[i].Variation = api.Span{Lo: l[2*i], Hi: l[2*i+1]}
	}
	return out
}

// triangles returns a list: three indices each.
func triangles(l ...int) []chart.Triangle {
	var out []chart.Triangle
	for i := 0; i+2 < len(l); i += 3 {
		out = append(out, chart.Triangle{l[i], l[i+1], l[i+2]})
	}
	return out
}

// example is S of the chapter's examples; line and square have errors.
func example() chart.Chart {
	return with(places(0, 0, 10, 0, 0, 10, 9, 9, 4, 3), 0, 0, 100, 100, 200, 200, 90, 110, 50, 50)
}

func line() chart.Chart { return places(0, 0, 1, 1, 5, 5, -7, -7) }

func square() chart.Chart { return places(0, 0, 5, 0, 5, 5, 0, 5) }

// dice yields the same numbers in every run.
type dice struct{ state uint64 }

// roll returns a number from a to b.
func (d *dice) roll(a, b int) int {
	d.state = d.state*6364136223846793005 + 1442695040888963407
	return a + int(d.state>>33)%(b-a+1)
}

func (d *dice) pick(l ...int) int { return l[d.roll(0, len(l)-1)] }

// span returns a span of variations, often a single number.
func (d *dice) span() api.Span {
	most := d.pick(9, 300, chart.MaxVariation)
	lo := d.roll(-most, most)
	return api.Span{Lo: lo, Hi: d.pick(lo, d.roll(lo, most))}
}

func (d *dice) station(most int) chart.Station {
	return chart.Station{X: d.roll(-most, most), Y: d.roll(-most, most), Variation: d.span()}
}

// wild returns different stations, of which several are often on one line or on one circle.
func (d *dice) wild() chart.Chart {
	most := d.pick(2, 3, 5, 9, 30, chart.MaxPlace)
	count, kind := d.roll(3, chart.MaxStations), d.roll(0, 5)
	var out chart.Chart
	for tries := 0; len(out) < count && tries < 200; tries++ {
		s := d.station(most)
		switch {
		case kind == 0 && len(out) > 0:
			// All but the first one are on one line.
			s.Y = 0
		case kind == 1 && tries%2 == 0:
			s.X = d.pick(-most, most)
		case kind == 2 && len(out)%4 == 3:
			// The fourth corner of a rectangle, or of another parallelogram.
			a, b, c := out[len(out)-3], out[len(out)-2], out[len(out)-1]
			s.X, s.Y = a.X+c.X-b.X, a.Y+c.Y-b.Y
		case kind == 2 && len(out)%4 == 2:
			a, b := out[len(out)-2], out[len(out)-1]
			s.X, s.Y = b.X-b.Y+a.Y, b.Y+b.X-a.X
		}
		if onMap(s.X, s.Y) && !slices.ContainsFunc(out, func(o chart.Station) bool { return here(o, s) }) {
			out = append(out, s)
		}
	}
	return out
}

// chart returns a chart without an error.
func (d *dice) chart() chart.Chart {
	for {
		if c := d.wild(); trueCheck(c) == api.OK {
			return c
		}
	}
}

// place returns a point: a station, one between two stations, or any one.
func (d *dice) place(c chart.Chart) (x, y int) {
	a, b := c[d.roll(0, len(c)-1)], c[d.roll(0, len(c)-1)]
	switch d.roll(0, 3) {
	case 0:
		return a.X, a.Y
	case 1:
		return (a.X + b.X) / 2, (a.Y + b.Y) / 2
	case 2:
		return max(-chart.MaxPlace, a.X-d.roll(0, 2)), min(chart.MaxPlace, b.Y+d.roll(0, 2))
	}
	return d.roll(-chart.MaxPlace, chart.MaxPlace), d.roll(-chart.MaxPlace, chart.MaxPlace)
}

// located returns a chart and a point of its area.
func (d *dice) located() (c chart.Chart, x, y int) {
	for {
		c = d.chart()
		if x, y = d.place(c); inArea(c, x, y) {
			return c, x, y
		}
	}
}

// order returns the numbers from 0 in any order.
func (d *dice) order(count int) []int {
	var out []int
	for i := range count {
		out = slices.Insert(out, d.roll(0, i), i)
	}
	return out
}

func onMap(x, y int) bool {
	return max(x, -x) <= chart.MaxPlace && max(y, -y) <= chart.MaxPlace
}

func here(a, b chart.Station) bool { return a.X == b.X && a.Y == b.Y }

// sign returns the sign of a number.
func sign(n int) int {
	switch {
	case n < 0:
		return -1
	case n > 0:
		return 1
	}
	return 0
}

// left returns 1 if c is to the left of the way from a to b, and -1 if it is to the right.
// It compares c with the point of the line that is beside it, or above or below it.
func left(a, b, c chart.Station) int {
	right := b.X - a.X
	if right == 0 {
		return sign(b.Y-a.Y) * sign(a.X-c.X)
	}
	up := (b.Y - a.Y) * (c.X - a.X) * sign(right)
	return sign(right) * sign((c.Y-a.Y)*max(right, -right)-up)
}

// wheel is a circle: its center, times under, and the square of its radius, times the square of under.
type wheel struct{ x, y, under, square int }

// wheelOf returns the circle of three stations that are not on one line.
func wheelOf(a, b, c chart.Station) wheel {
	p, q, r := a.X*a.X+a.Y*a.Y, b.X*b.X+b.Y*b.Y, c.X*c.X+c.Y*c.Y
	w := wheel{
		x:     p*(b.Y-c.Y) + q*(c.Y-a.Y) + r*(a.Y-b.Y),
		y:     p*(c.X-b.X) + q*(a.X-c.X) + r*(b.X-a.X),
		under: 2 * (a.X*(b.Y-c.Y) + b.X*(c.Y-a.Y) + c.X*(a.Y-b.Y)),
	}
	w.square = w.distance(a)
	return w
}

// distance returns the square of the distance from the center, times the square of under.
func (w wheel) distance(s chart.Station) int {
	x, y := w.under*s.X-w.x, w.under*s.Y-w.y
	return x*x + y*y
}

// inside returns 1 if a station is inside, 0 if it is on the circle, and -1 if it is outside.
func (w wheel) inside(s chart.Station) int { return sign(w.square - w.distance(s)) }

func isFlat(c chart.Chart, t chart.Triangle) bool { return left(c[t[0]], c[t[1]], c[t[2]]) == 0 }

// isEmpty reports whether three stations, not on one line, have a circle with no station inside.
func isEmpty(c chart.Chart, t chart.Triangle) bool {
	w := wheelOf(c[t[0]], c[t[1]], c[t[2]])
	return !slices.ContainsFunc(c, func(s chart.Station) bool { return w.inside(s) > 0 })
}

// triples returns all three indices in ascending order, without those of stations on one line.
func triples(c chart.Chart) []chart.Triangle {
	var out []chart.Triangle
	for i := range c {
		for j := i + 1; j < len(c); j++ {
			for k := j + 1; k < len(c); k++ {
				if t := (chart.Triangle{i, j, k}); !isFlat(c, t) {
					out = append(out, t)
				}
			}
		}
	}
	return out
}

func trueTriangles(c chart.Chart) []chart.Triangle {
	return slices.DeleteFunc(triples(c), func(t chart.Triangle) bool { return !isEmpty(c, t) })
}

// isClear tries all four stations.
func isClear(c chart.Chart) bool {
	for _, t := range triples(c) {
		w := wheelOf(c[t[0]], c[t[1]], c[t[2]])
		for l := t[2] + 1; l < len(c); l++ {
			if w.inside(c[l]) == 0 && isEmpty(c, t) {
				return false
			}
		}
	}
	return true
}

// trueCheck returns the error of stations at different points of the map.
func trueCheck(c chart.Chart) api.Errno {
	switch {
	case len(triples(c)) == 0:
		return api.ErrFlat
	case !isClear(c):
		return api.ErrClash
	}
	return api.OK
}

// onRim reports whether a line goes through a station that has no station on one of its sides.
// Such a line can be turned around the station until it goes through another one.
func onRim(c chart.Chart, a chart.Station) bool {
	for _, b := range c {
		sides := map[int]bool{}
		for _, s := range c {
			sides[left(a, b, s)] = true
		}
		if !here(a, b) && !(sides[1] && sides[-1]) {
			return true
		}
	}
	return false
}

// trueRim returns the stations of the rim in the order of their directions from a point inside the area.
func trueRim(c chart.Chart) []int {
	n, middle := len(c), chart.Station{}
	for _, s := range c {
		middle.X += s.X
		middle.Y += s.Y
	}
	from := func(i int) (x, y int) { return n*c[i].X - middle.X, n*c[i].Y - middle.Y }
	half := func(i int) int {
		if x, y := from(i); y < 0 || y == 0 && x < 0 {
			return 1
		}
		return 0
	}
	var out []int
	for i, s := range c {
		if onRim(c, s) {
			out = append(out, i)
		}
	}
	slices.SortFunc(out, func(i, j int) int {
		ax, ay := from(i)
		bx, by := from(j)
		if half(i) != half(j) {
			return half(i) - half(j)
		}
		return ay*bx - ax*by
	})
	first := slices.Index(out, slices.Min(out))
	return append(out[first:], out[:first]...)
}

// isIn returns 1 if a point is inside the triangle of three stations, 0 if it is on a side, and -1 if it is outside.
func isIn(a, b, c chart.Station, x, y int) int {
	p, least := at(x, y), 1
	for _, s := range [][3]chart.Station{{a, b, c}, {b, c, a}, {c, a, b}} {
		least = min(least, left(s[0], s[1], p)*left(s[0], s[1], s[2]))
	}
	return least
}

// inArea reports whether a point is in the triangle of any three stations.
func inArea(c chart.Chart, x, y int) bool {
	return slices.ContainsFunc(triples(c), func(t chart.Triangle) bool {
		return isIn(c[t[0]], c[t[1]], c[t[2]], x, y) >= 0
	})
}

// trueLocate returns the first triangle in which a point is, if it is in one.
func trueLocate(c chart.Chart, x, y int) (chart.Triangle, bool) {
	for _, t := range trueTriangles(c) {
		if isIn(c[t[0]], c[t[1]], c[t[2]], x, y) >= 0 {
			return t, true
		}
	}
	return chart.Triangle{}, false
}

func fraction(num, den int) *big.Rat { return big.NewRat(int64(num), int64(den)) }

// exactly returns what a result says, nil if it is not reduced.
func exactly(r api.Ratio) *big.Rat {
	if r.Den < 1 {
		return nil
	}
	f := fraction(r.Num, r.Den)
	if f.Denom().Int64() != int64(r.Den) {
		return nil
	}
	return f
}

func same(r api.Ratio, f *big.Rat) bool {
	x := exactly(r)
	return x != nil && x.Cmp(f) == 0
}

// plane is a function of the form a x + b y + c.
type plane struct{ a, b, c *big.Rat }

// planeOf returns the function that has some variations at three stations that are not on one line.
func planeOf(corners [3]chart.Station, variations [3]*big.Rat) plane {
	o, p, q := corners[0], corners[1], corners[2]
	first, second := new(big.Rat).Sub(variations[1], variations[0]), new(big.Rat).Sub(variations[2], variations[0])
	// Cramer's rule, with the origin in the first corner.
	d := (p.X-o.X)*(q.Y-o.Y) - (p.Y-o.Y)*(q.X-o.X)
	f := plane{a: mix(first, q.Y-o.Y, second, o.Y-p.Y, d), b: mix(first, o.X-q.X, second, p.X-o.X, d)}
	f.c = new(big.Rat).Sub(variations[0], mix(f.a, o.X, f.b, o.Y, 1))
	return f
}

// mix returns (r m + s n) / d.
func mix(r *big.Rat, m int, s *big.Rat, n, d int) *big.Rat {
	out := new(big.Rat).Mul(r, fraction(m, d))
	return out.Add(out, new(big.Rat).Mul(s, fraction(n, d)))
}

func (f plane) at(x, y int) *big.Rat { return new(big.Rat).Add(mix(f.a, x, f.b, y, 1), f.c) }

// trueAt returns the smallest and the greatest variation at a point of a triangle, of all whose variations are ends of the spans.
func trueAt(c chart.Chart, t chart.Triangle, x, y int) (lo, hi *big.Rat) {
	corners := [3]chart.Station{c[t[0]], c[t[1]], c[t[2]]}
	for ends := range 8 {
		var variations [3]*big.Rat
		for i, s := range corners {
			if variations[i] = fraction(s.Variation.Lo, 1); ends>>i&1 == 1 {
				variations[i] = fraction(s.Variation.Hi, 1)
			}
		}
		v := planeOf(corners, variations).at(x, y)
		if lo == nil || v.Cmp(lo) < 0 {
			lo = v
		}
		if hi == nil || v.Cmp(hi) > 0 {
			hi = v
		}
	}
	return lo, hi
}

// trianglesOf returns what Triangles returns, and expects no error.
func trianglesOf(t *testing.T, c chart.Chart) []chart.Triangle {
	t.Helper()
	out, e := chart.Triangles(c)
	if e != api.OK {
		t.Fatalf("Triangles(%v): %d", c, e)
	}
	return out
}

// spanAt returns what At returns, as numbers of any size, and expects no error.
func spanAt(t *testing.T, c chart.Chart, x, y int) (lo, hi *big.Rat) {
	t.Helper()
	a, b, e := chart.At(c, x, y)
	if lo, hi = exactly(a), exactly(b); e != api.OK || lo == nil || hi == nil || lo.Cmp(hi) > 0 {
		t.Fatalf("At(%v, %d, %d) = %v %v %d", c, x, y, a, b, e)
	}
	return lo, hi
}
