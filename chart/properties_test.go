package chart_test

import (
	"math/big"
	"slices"
	"testing"

	"agonic/api"
	"agonic/chart"
)

// P7.1: sides of ways between all kinds of points.
func TestSideAgainstDefinition(t *testing.T) {
	d := dice{1}
	count := map[int]int{}
	for range 20000 {
		most := d.pick(1, 3, 10, chart.MaxPlace)
		a, b, c := d.station(most), d.station(most), d.station(most)
		n, e := chart.Side(a, b, c)
		if n != left(a, b, c) || e != api.OK {
			t.Fatalf("Side(%v, %v, %v) = %d %d", a, b, c, n, e)
		}
		count[n]++
	}
	if len(count) != 3 || min(count[-1], count[0], count[1]) < 1000 {
		t.Errorf("too few of one kind: %v", count)
	}
}

// P7.1: insides of circles, by distances from their centers.
func TestInsideAgainstDefinition(t *testing.T) {
	d := dice{2}
	count := map[int]int{}
	for range 30000 {
		most := d.pick(1, 2, 5, 10, chart.MaxPlace)
		a, b, c, s := d.station(most), d.station(most), d.station(most), d.station(most)
		if d.roll(0, 9) == 0 {
			s = []chart.Station{a, b, c}[d.roll(0, 2)]
		}
		n, e := chart.Inside(a, b, c, s)
		if left(a, b, c) == 0 {
			if n != 0 || e != api.ErrFlat {
				t.Fatalf("Inside(%v, %v, %v, %v) = %d %d", a, b, c, s, n, e)
			}
			continue
		}
		if n != wheelOf(a, b, c).inside(s) || e != api.OK {
			t.Fatalf("Inside(%v, %v, %v, %v) = %d %d", a, b, c, s, n, e)
		}
		count[n]++
	}
	if len(count) != 3 || min(count[-1], count[0], count[1]) < 1000 {
		t.Errorf("too few of one kind: %v", count)
	}
}

// P7.2: charts of all kinds.
func TestCheckAgainstDefinition(t *testing.T) {
	d := dice{3}
	count := map[api.Errno]int{}
	for range 6000 {
		c := d.wild()
		if e := chart.Check(c); e != trueCheck(c) {
			t.Fatalf("Check(%v) = %d, want %d", c, e, trueCheck(c))
		}
		count[trueCheck(c)]++
	}
	for _, e := range []api.Errno{api.OK, api.ErrFlat, api.ErrClash} {
		if count[e] < 100 {
			t.Errorf("too few of one kind: %v", count)
		}
	}
}

// P7.3, G2, G3: all triangles, and the rim.
func TestTrianglesAgainstDefinition(t *testing.T) {
	d := dice{4}
	count := map[int]int{}
	sides := 0
	for range 3000 {
		c := d.chart()
		if got := trianglesOf(t, c); !slices.Equal(got, trueTriangles(c)) {
			t.Fatalf("Triangles(%v) = %v, want %v", c, got, trueTriangles(c))
		}
		rim, e := chart.Rim(c)
		if !slices.Equal(rim, trueRim(c)) || e != api.OK {
			t.Fatalf("Rim(%v) = %v %d, want %v", c, rim, e, trueRim(c))
		}
		count[len(c)]++
		for i, k := range rim {
			if left(c[rim[(i+1)%len(rim)]], c[k], c[rim[(i+2)%len(rim)]]) == 0 {
				sides++
			}
		}
	}
	for n := 3; n <= chart.MaxStations; n++ {
		if count[n] < 50 || sides < 300 {
			t.Errorf("too few of one kind: %v, %d", count, sides)
		}
	}
}

// P7.4, G4: a station is inside the circle, and it is the first one.
func TestAgainstDefinition(t *testing.T) {
	d := dice{5}
	count := map[api.Errno]int{}
	for range 6000 {
		c := d.chart()
		some := d.order(len(c))[:3]
		slices.Sort(some)
		three := chart.Triangle(some)
		want, no := 0, api.OK
		if isFlat(c, three) {
			no = api.ErrFlat
		} else {
			w := wheelOf(c[three[0]], c[three[1]], c[three[2]])
			want = slices.IndexFunc(c, func(s chart.Station) bool { return w.inside(s) > 0 })
			if want < 0 {
				want, no = 0, api.ErrLost
			}
		}
		if got, e := chart.Against(c, three); got != want || e != no {
			t.Fatalf("Against(%v, %v) = %d %d, want %d %d", c, three, got, e, want, no)
		}
		count[no]++
	}
	for _, e := range []api.Errno{api.OK, api.ErrFlat, api.ErrLost} {
		if count[e] < 100 {
			t.Errorf("too few of one kind: %v", count)
		}
	}
}

// P7.5, G3: the first triangle in which a point is, and both ends of the variation there.
func TestAtAgainstDefinition(t *testing.T) {
	d := dice{6}
	count := [2]int{}
	for range 6000 {
		c := d.chart()
		x, y := d.place(c)
		in, e := chart.Locate(c, x, y)
		lo, hi, f := chart.At(c, x, y)
		want, ok := trueLocate(c, x, y)
		if ok != inArea(c, x, y) {
			t.Fatalf("%v: %d, %d is in a triangle: %v", c, x, y, ok)
		}
		if !ok {
			if in != want || e != api.ErrLost || lo != part(0, 0) || hi != part(0, 0) || f != api.ErrLost {
				t.Fatalf("Locate(%v, %d, %d) = %v %d, At %v %v %d", c, x, y, in, e, lo, hi, f)
			}
			count[0]++
			continue
		}
		count[1]++
		a, b := trueAt(c, want, x, y)
		if in != want || e != api.OK || !same(lo, a) || !same(hi, b) || f != api.OK {
			t.Fatalf("Locate(%v, %d, %d) = %v %d, At %v %v %d, want %v, %v, %v", c, x, y, in, e, lo, hi, f, want, a, b)
		}
	}
	if min(count[0], count[1]) < 1000 {
		t.Errorf("too few of one kind: %v", count)
	}
}

// double returns twice the area of stations that follow each other around it.
func double(c chart.Chart, around []int) int {
	sum := 0
	for i, k := range around {
		a, b := c[k], c[around[(i+1)%len(around)]]
		sum += a.X*b.Y - a.Y*b.X
	}
	return sum
}

// P7.6: so many triangles, which together are as large as the area; each station is a corner.
func TestCover(t *testing.T) {
	d := dice{7}
	for range 3000 {
		c := d.chart()
		all := trianglesOf(t, c)
		rim, e := chart.Rim(c)
		if len(all) != 2*len(c)-2-len(rim) || e != api.OK {
			t.Fatalf("%v: %d triangles, Rim %v %d", c, len(all), rim, e)
		}
		sum, corners := 0, map[int]bool{}
		for _, three := range all {
			one := double(c, three[:])
			sum += max(one, -one)
			for _, k := range three {
				corners[k] = true
			}
		}
		if sum != double(c, rim) || len(corners) != len(c) {
			t.Fatalf("%v: triangles %v with the areas %d, of %d", c, all, sum, double(c, rim))
		}
	}
}

// P7.6: each point of the area is in a triangle, and inside one at most.
func TestEachPoint(t *testing.T) {
	d := dice{8}
	for range 40 {
		c := d.chart()
		all := trianglesOf(t, c)
		for x := -chart.MaxPlace; x <= chart.MaxPlace; x += d.roll(1, 3) {
			for y := -chart.MaxPlace; y <= chart.MaxPlace; y += d.roll(1, 12) {
				in, inside := 0, 0
				for _, three := range all {
					switch isIn(c[three[0]], c[three[1]], c[three[2]], x, y) {
					case 1:
						inside++
						fallthrough
					case 0:
						in++
					}
				}
				_, e := chart.Locate(c, x, y)
				if inside > 1 || (in > 0) != (e == api.OK) || inArea(c, x, y) != (e == api.OK) {
					t.Fatalf("%v: %d, %d is in %d triangles, inside %d; Locate %d", c, x, y, in, inside, e)
				}
			}
		}
	}
}

// P7.7, G4: with x x + y y as variations, no other three stations give less at a point.
func TestLow(t *testing.T) {
	d := dice{9}
	for range 600 {
		c, x, y := d.located()
		for i, s := range c {
			v := s.X*s.X + s.Y*s.Y
			c[i].Variation = api.Span{Lo: v, Hi: v}
		}
		lo, hi := spanAt(t, c, x, y)
		var least *big.Rat
		for _, three := range triples(c) {
			if isIn(c[three[0]], c[three[1]], c[three[2]], x, y) < 0 {
				continue
			}
			if v, _ := trueAt(c, three, x, y); least == nil || v.Cmp(least) < 0 {
				least = v
			}
		}
		if lo.Cmp(least) != 0 || hi.Cmp(least) != 0 {
			t.Fatalf("At(%v, %d, %d) = %v %v, but three stations give %v", c, x, y, lo, hi, least)
		}
	}
}

// P7.8: variations that are even remain so.
func TestEven(t *testing.T) {
	d := dice{10}
	for range 2500 {
		c, x, y := d.located()
		a, b, m := d.roll(-60, 60), d.roll(-60, 60), d.roll(-5000, 5000)
		for i, s := range c {
			v := a*s.X + b*s.Y + m
			c[i].Variation = api.Span{Lo: v, Hi: v}
		}
		want := part(a*x+b*y+m, 1)
		if lo, hi, e := chart.At(c, x, y); lo != want || hi != want || e != api.OK {
			t.Fatalf("At(%v, %d, %d) = %v %v %d, want %v", c, x, y, lo, hi, e, want)
		}
	}
}

// P7.9: at a station its span.
func TestAtStations(t *testing.T) {
	d := dice{11}
	for range 1000 {
		c := d.chart()
		for _, s := range c {
			lo, hi, e := chart.At(c, s.X, s.Y)
			if lo != part(s.Variation.Lo, 1) || hi != part(s.Variation.Hi, 1) || e != api.OK {
				t.Fatalf("At(%v, %d, %d) = %v %v %d", c, s.X, s.Y, lo, hi, e)
			}
		}
	}
}

// P7.9, G1, G3: real numbers of the spans as variations give one within At, in whichever triangle the point is.
func TestTruths(t *testing.T) {
	d := dice{12}
	for range 2000 {
		c, x, y := d.located()
		lo, hi := spanAt(t, c, x, y)
		var truth []*big.Rat
		for _, s := range c {
			sevenths := 7 * (s.Variation.Hi - s.Variation.Lo)
			truth = append(truth, new(big.Rat).Add(fraction(s.Variation.Lo, 1), fraction(d.pick(0, sevenths, d.roll(0, sevenths)), 7)))
		}
		for _, three := range trueTriangles(c) {
			i, j, k := three[0], three[1], three[2]
			if isIn(c[i], c[j], c[k], x, y) < 0 {
				continue
			}
			v := planeOf([3]chart.Station{c[i], c[j], c[k]}, [3]*big.Rat{truth[i], truth[j], truth[k]}).at(x, y)
			if v.Cmp(lo) < 0 || v.Cmp(hi) > 0 {
				t.Fatalf("At(%v, %d, %d) = %v %v, but %v is possible", c, x, y, lo, hi, v)
			}
		}
	}
}

// P7.9, G1: spans within others do not make At wider; it lies between the ends of the corners.
func TestNarrower(t *testing.T) {
	d := dice{13}
	count := 0
	for range 2000 {
		c, x, y := d.located()
		lo, hi := spanAt(t, c, x, y)
		three, _ := trueLocate(c, x, y)
		least, most := chart.MaxVariation, -chart.MaxVariation
		for _, k := range three {
			least, most = min(least, c[k].Variation.Lo), max(most, c[k].Variation.Hi)
		}
		if lo.Cmp(fraction(least, 1)) < 0 || hi.Cmp(fraction(most, 1)) > 0 {
			t.Fatalf("At(%v, %d, %d) = %v %v, with ends of %d and %d", c, x, y, lo, hi, least, most)
		}
		for i := range c {
			v := &c[i].Variation
			v.Lo = d.roll(v.Lo, v.Hi)
			v.Hi = d.roll(v.Lo, v.Hi)
		}
		a, b := spanAt(t, c, x, y)
		if a.Cmp(lo) < 0 || b.Cmp(hi) > 0 {
			t.Fatalf("At(%v, %d, %d) = %v %v, before %v %v", c, x, y, a, b, lo, hi)
		}
		if a.Cmp(lo) > 0 && b.Cmp(hi) < 0 {
			count++
		}
	}
	if count < 300 {
		t.Errorf("only %d became narrower", count)
	}
}

// P7.10: a triangle remains one without another station, as long as what is left is a chart.
func TestWithoutOne(t *testing.T) {
	d := dice{14}
	count := 0
	for range 1000 {
		c := d.chart()
		for _, three := range trianglesOf(t, c) {
			out := d.roll(0, len(c)-1)
			if slices.Contains(three[:], out) {
				continue
			}
			less := three
			for i, k := range three {
				if k > out {
					less[i]--
				}
			}
			left := slices.Delete(slices.Clone(c), out, out+1)
			n, e := chart.Against(left, less)
			if e == api.ErrClash && !isClear(left) {
				continue
			}
			count++
			if n != 0 || e != api.ErrLost || !slices.Contains(trianglesOf(t, left), less) {
				t.Fatalf("%v without %d: %v is no triangle, Against %d %d", c, out, three, n, e)
			}
		}
	}
	if count < 2000 {
		t.Errorf("only %d", count)
	}
}

// movement leads points to others.
type movement func(x, y int) (int, int)

// movements returns turns, mirrors and a move; the first ones keep the orientation.
func (d *dice) movements(c chart.Chart) (keep, mirror []movement) {
	right, up := chart.MaxPlace, chart.MaxPlace
	for _, s := range c {
		right, up = min(right, chart.MaxPlace-max(s.X, -s.X)), min(up, chart.MaxPlace-max(s.Y, -s.Y))
	}
	right, up = d.roll(-right, right), d.roll(-up, up)
	keep = []movement{
		func(x, y int) (int, int) { return x + right, y + up },
		func(x, y int) (int, int) { return -y, x },
		func(x, y int) (int, int) { return -x, -y },
		func(x, y int) (int, int) { return y, -x },
	}
	mirror = []movement{
		func(x, y int) (int, int) { return -x, y },
		func(x, y int) (int, int) { return x, -y },
		func(x, y int) (int, int) { return y, x },
		func(x, y int) (int, int) { return -y, -x },
	}
	return keep, mirror
}

func (m movement) of(c chart.Chart) chart.Chart {
	out := slices.Clone(c)
	for i, s := range c {
		out[i].X, out[i].Y = m(s.X, s.Y)
	}
	return out
}

// checkMoved compares a chart with a moved one, whose rim is as given.
func checkMoved(t *testing.T, c chart.Chart, m movement, rim []int, x, y int) {
	t.Helper()
	moved := m.of(c)
	if !slices.Equal(trianglesOf(t, c), trianglesOf(t, moved)) {
		t.Fatalf("%v and %v: triangles %v and %v", c, moved, trianglesOf(t, c), trianglesOf(t, moved))
	}
	if got, e := chart.Rim(moved); !slices.Equal(got, rim) || e != api.OK {
		t.Fatalf("%v and %v: Rim %v %d, want %v", c, moved, got, e, rim)
	}
	u, v := m(x, y)
	if !onMap(u, v) {
		return
	}
	in, e := chart.Locate(c, x, y)
	other, f := chart.Locate(moved, u, v)
	a, b, _ := chart.At(c, x, y)
	lo, hi, _ := chart.At(moved, u, v)
	if in != other || e != f || a != lo || b != hi {
		t.Fatalf("%v and %v at %d, %d and %d, %d: %v %v %v %d and %v %v %v %d", c, moved, x, y, u, v, in, a, b, e, other, lo, hi, f)
	}
}

// P7.11, G5: moved, turned and mirrored charts.
func TestMoved(t *testing.T) {
	d := dice{15}
	for range 1000 {
		c := d.chart()
		x, y := d.place(c)
		rim, _ := chart.Rim(c)
		keep, mirror := d.movements(c)
		for _, m := range keep {
			checkMoved(t, c, m, rim, x, y)
		}
		// The first station remains the first one; the others follow in the other direction.
		slices.Reverse(rim[1:])
		for _, m := range mirror {
			checkMoved(t, c, m, rim, x, y)
		}
	}
}

// P7.11, G5: stations in another order have other indices, and nothing else changes.
func TestOrder(t *testing.T) {
	d := dice{16}
	for range 2000 {
		c := d.chart()
		order := d.order(len(c))
		var other chart.Chart
		for _, k := range order {
			other = append(other, c[k])
		}
		var want []chart.Triangle
		for _, three := range trianglesOf(t, other) {
			back := list(order[three[0]], order[three[1]], order[three[2]])
			slices.Sort(back)
			want = append(want, chart.Triangle(back))
		}
		slices.SortFunc(want, func(a, b chart.Triangle) int { return slices.Compare(a[:], b[:]) })
		if got := trianglesOf(t, c); !slices.Equal(got, want) {
			t.Fatalf("%v in the order %v: %v, want %v", c, order, got, want)
		}
		x, y := d.place(c)
		a, b, e := chart.At(c, x, y)
		lo, hi, f := chart.At(other, x, y)
		if a != lo || b != hi || e != f {
			t.Fatalf("At(%v, %d, %d) = %v %v %d, in the order %v %v %v %d", c, x, y, a, b, e, order, lo, hi, f)
		}
	}
}
