package magnet

import "cmp"

func (v Vector) plus(w Vector) Vector { return Vector{v.X + w.X, v.Y + w.Y} }

func (v Vector) minus(w Vector) Vector { return Vector{v.X - w.X, v.Y - w.Y} }

func (v Vector) times(n int) Vector { return Vector{n * v.X, n * v.Y} }

func (v Vector) product(w Vector) int { return v.X*w.X + v.Y*w.Y }

func (v Vector) square() int { return v.product(v) }

// turn returns the area of two vectors, with a sign that says on which side of the first
// one the second one is.
func (v Vector) turn(w Vector) int { return v.X*w.Y - v.Y*w.X }

// past compares twice the product with a vector to the square of that vector: if it is
// greater, less of that vector has a smaller square, and if it is equal, the same square.
func (v Vector) past(w Vector) int { return cmp.Compare(2*v.product(w), w.square()) }

// nearest returns an integer nearest to the quotient of two measures from a vector: that
// of another one, and that of a unit.
func nearest(measure func(v, w Vector) int, from, other, unit Vector) int {
	a, b := measure(from, other), measure(from, unit)
	if b < 0 {
		a, b = -a, -b
	}
	return floor(2*a+b, 2*b)
}

// floor returns a quotient, rounded down; the divisor is above 0.
func floor(a, b int) int {
	if a%b < 0 {
		return a/b - 1
	}
	return a / b
}

// root returns the square root of a number from 0, rounded down.
func root(n int) int {
	r := n
	for r > 0 && r > n/r {
		r = (r + n/r) / 2
	}
	return r
}
