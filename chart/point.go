package chart

import (
	"cmp"

	"agonic/api"
)

type point struct{ x, y int }

func (s Station) point() point { return point{s.X, s.Y} }

// turn returns twice the area between a point and two others, which is above 0 if the
// second one of them is to the left of the way to the first one.
func (p point) turn(a, b point) int { return (a.x-p.x)*(b.y-p.y) - (a.y-p.y)*(b.x-p.x) }

// product returns the product of the ways to two others. Of points on one line it is
// below 0 if the point is between the others.
func (p point) product(a, b point) int { return (a.x-p.x)*(b.x-p.x) + (a.y-p.y)*(b.y-p.y) }

func (p point) square(a point) int { return p.product(a, a) }

// corners are three points; but for areFlat, they are not on one line.
type corners [3]point

// opposite returns, for each corner, what is measured of the other two.
func (c corners) opposite(measure func(a, b point) int) [3]int {
	return [3]int{measure(c[1], c[2]), measure(c[2], c[0]), measure(c[0], c[1])}
}

func (c corners) areFlat() bool { return c[0].turn(c[1], c[2]) == 0 }

// weights say how much each corner counts at a point: a function of the form
// a x + b y + c has there the mean of its values at the corners. Their sum is above 0.
type weights [3]int

func (c corners) weights(p point) weights {
	w := weights(c.opposite(p.turn))
	if c[0].turn(c[1], c[2]) < 0 {
		return weights{-w[0], -w[1], -w[2]}
	}
	return w
}

// sum returns the sum of the values at the corners, as often as they count.
func (w weights) sum(values [3]int) int {
	return w[0]*values[0] + w[1]*values[1] + w[2]*values[2]
}

// mean returns the value at the point, as a reduced fraction.
func (w weights) mean(values [3]int) api.Ratio {
	sum, count := w.sum(values), w.sum([3]int{1, 1, 1})
	d := divisor(sum, count)
	return api.Ratio{Num: sum / d, Den: count / d}
}

// divisor returns the greatest number that divides two numbers, of which the second is above 0.
func divisor(a, b int) int {
	for b != 0 {
		a, b = b, a%b
	}
	return max(a, -a)
}

// holds reports whether a point is in the triangle, or on a side of it.
func (c corners) holds(p point) bool {
	w := c.weights(p)
	return min(w[0], w[1], w[2]) >= 0
}

// circle returns 1 if a point is inside the circle of the corners, 0 if it is on it, and
// -1 if it is outside. The mean of the squares of the point's distances from the corners
// is the square of the radius without that of its distance from the center.
func (c corners) circle(p point) int {
	squares := [3]int{p.square(c[0]), p.square(c[1]), p.square(c[2])}
	return cmp.Compare(c.weights(p).sum(squares), 0)
}

// encloses reports whether a point is inside the circle of the corners.
func (c corners) encloses(p point) bool { return c.circle(p) > 0 }
