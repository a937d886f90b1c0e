package total_test

import (
	"math"
	"slices"
	"testing"

	"agonic/api"
	"agonic/total"
)

// Terms, Limits: the chapter's limits.
func TestLimits(t *testing.T) {
	got := list(total.MaxQuantities, total.MaxTriangles, total.MaxField, total.MaxRoot)
	if want := list(11, 5, 10000, 1125899906842624); !slices.Equal(got, want) {
		t.Errorf("limits %v, want %v", got, want)
	}
}

type badNet struct {
	n total.Net
	e api.Errno
}

// badNets are nets with errors, in the order in which they are examined.
func badNets() []badNet {
	five := spans(0, 10000, 0, 0, 10000, 10000, 1, 2, 0, 3)
	six, seven := make([]api.Span, 6), make([]api.Span, 7)
	return []badNet{
		{net(nil), api.ErrEmpty},
		{net(nil, 0, 1, 2), api.ErrEmpty},
		{total.Net{Triangles: make([]total.Triangle, 6)}, api.ErrEmpty},
		{net(make([]api.Span, 12)), api.ErrMany},
		{net(slices.Repeat(spans(-1, -2), 12), 9, 9, 9), api.ErrMany},
		{total.Net{Spans: five, Triangles: make([]total.Triangle, 6)}, api.ErrMany},
		{total.Net{Spans: spans(1, 0), Triangles: make([]total.Triangle, 6)}, api.ErrMany},
		{net(spans(-1, 0)), api.ErrRange},
		{net(spans(1, 0)), api.ErrRange},
		{net(spans(0, 10001)), api.ErrRange},
		{net(spans(10001, 10001)), api.ErrRange},
		{net(spans(math.MinInt, math.MaxInt)), api.ErrRange},
		{net(spans(0, math.MaxInt)), api.ErrRange},
		{net(spans(math.MinInt, 5)), api.ErrRange},
		{net(spans(0, 0, 0, 0, 0, 0, 5, 4), 0, 1, 9), api.ErrRange},
		{net(five, 5, 1, 2), api.ErrNone},
		{net(five, 0, 5, 2), api.ErrNone},
		{net(five, 0, 1, 5), api.ErrNone},
		{net(five, -1, 1, 2), api.ErrNone},
		{net(five, 0, -1, 2), api.ErrNone},
		{net(five, 0, 1, -1), api.ErrNone},
		{net(five, math.MinInt, math.MaxInt, 0), api.ErrNone},
		{net(five, 5, 5, 5), api.ErrNone},
		{net(five, 1, 1, 5), api.ErrNone},
		{net(five, 0, 1, 2, 0, 1, 5), api.ErrNone},
		{net(five, 0, 0, 2), api.ErrTwice},
		{net(five, 2, 1, 2), api.ErrTwice},
		{net(five, 0, 2, 2), api.ErrTwice},
		{net(five, 3, 3, 3), api.ErrTwice},
		{net(five, 0, 1, 2, 1, 1, 2), api.ErrTwice},
		{net(spans(0, 1), 0, 0, 0), api.ErrTwice},
		{net(five, 0, 1, 2, 0, 1, 2), api.ErrFold},
		{net(five, 0, 1, 2, 0, 1, 3), api.ErrFold},
		{net(five, 0, 1, 2, 0, 3, 2), api.ErrFold},
		{net(five, 0, 1, 2, 3, 1, 2), api.ErrFold},
		{net(five, 0, 1, 2, 2, 3, 1), api.ErrFold},
		{net(five, 0, 1, 2, 2, 3, 1, 9, 9, 9), api.ErrFold},
		{net(five, 0, 1, 2, 3, 3, 3, 0, 1, 2), api.ErrTwice},
		// connected over other triangles: each two places of the ring's last one
		{net(six, 0, 1, 2, 2, 3, 4, 0, 4, 5), api.ErrFold},
		{net(six, 0, 1, 2, 2, 3, 4, 0, 5, 4), api.ErrFold},
		{net(six, 0, 1, 2, 2, 3, 4, 5, 0, 4), api.ErrFold},
		{net(seven, 0, 1, 2, 3, 4, 5, 2, 6, 5, 0, 6, 3), api.ErrFold},
		{net(seven, 0, 1, 2, 3, 4, 5, 2, 6, 5, 4, 0, 6), api.ErrFold},
		{net(make([]api.Span, 11), 0, 1, 2, 2, 3, 4, 4, 5, 6, 6, 7, 8, 8, 9, 0), api.ErrFold},
	}
}

// goodNets are nets without errors, possible or not.
func goodNets() []total.Net {
	eleven := slices.Repeat(spans(0, 10000), 11)
	return []total.Net{
		example(0, 13), example(14, 20), star(), row(eleven...), row(make([]api.Span, 11)...),
		net(spans(0, 0)), net(spans(10000, 10000)), net(eleven),
		net(eleven, 10, 9, 8), net(eleven, 0, 1, 2, 3, 4, 5, 6, 7, 8),
		// five around one quantity, and two rows that a last triangle joins
		net(eleven, 0, 1, 2, 0, 3, 4, 5, 0, 6, 7, 8, 0, 9, 10, 0),
		net(eleven, 0, 1, 2, 3, 4, 5, 6, 7, 8, 2, 5, 8, 0, 9, 10),
	}
}

// P3.1: Check.
func TestCheck(t *testing.T) {
	for _, n := range goodNets() {
		if e := total.Check(n); e != api.OK {
			t.Errorf("Check(%v) = %d", n, e)
		}
	}
	for _, x := range badNets() {
		if e := total.Check(x.n); e != x.e {
			t.Errorf("Check(%v) = %d, want %d", x.n, e, x.e)
		}
	}
}

// failures returns the errors of the functions that get a net, and expects zero
// values with each of them (R2).
func failures(t *testing.T, n total.Net, group []int, quantity int, high bool) []api.Errno {
	t.Helper()
	equation, a := total.Equation(n, group)
	squares, b := total.Squares(n)
	lengths, c := total.Lengths(n)
	truth, d := total.Truth(n, quantity, high)
	clash, e := total.Clash(n)
	suspects, f := total.Suspects(n)
	for i, wrong := range []bool{a != api.OK && len(equation) > 0, b != api.OK && len(squares) > 0, c != api.OK && len(lengths) > 0, d != api.OK && len(truth) > 0, e != api.OK && len(clash) > 0, f != api.OK && len(suspects) > 0} {
		if wrong {
			t.Errorf("%v, %v, %d: result %d is not zero", n, group, quantity, i)
		}
	}
	return []api.Errno{a, b, c, d, e, total.Verify(n, group), f}
}

// P3.3 to P3.7: the error of Check comes first (R1), with zero values (R2).
func TestErrorsOfNets(t *testing.T) {
	for _, x := range badNets() {
		for _, group := range [][]int{nil, {0}, {-1}, {1, 0}} {
			for i, e := range failures(t, x.n, group, -1, len(group) > 0) {
				if e != x.e {
					t.Errorf("function %d of %v: %d, want %d", i, x.n, e, x.e)
				}
			}
		}
	}
}

// P3.2: Root, at its bounds, around all squares, and beyond.
func TestRoot(t *testing.T) {
	check := func(square, lo, hi int, e api.Errno) {
		t.Helper()
		if a, b, f := total.Root(square); a != lo || b != hi || f != e {
			t.Errorf("Root(%d) = %d %d %d, want %d %d %d", square, a, b, f, lo, hi, e)
		}
	}
	check(0, 0, 0, api.OK)
	check(1, 1, 1, api.OK)
	check(2, 1, 2, api.OK)
	check(3, 1, 2, api.OK)
	check(4, 2, 2, api.OK)
	check(24, 4, 5, api.OK)
	check(25, 5, 5, api.OK)
	check(1<<50, 1<<25, 1<<25, api.OK)
	check(1<<50-1, 1<<25-1, 1<<25, api.OK)
	for _, square := range list(-1, 1<<50+1, math.MinInt, math.MaxInt) {
		check(square, 0, 0, api.ErrRange)
	}
	d := dice{1}
	for range 20000 {
		root := d.roll(2, 1<<d.roll(2, 25))
		check(root*root, root, root, api.OK)
		check(root*root-1, root-1, root, api.OK)
		if root < 1<<25 {
			check(root*root+1, root, root+1, api.OK)
			between := root*root + d.roll(1, 2*root)
			check(between, root, root+1, api.OK)
		}
	}
}

// P3.3: Equation, with its errors in their order (R1).
func TestEquation(t *testing.T) {
	apart := net(make([]api.Span, 6), 0, 1, 2, 3, 4, 5)
	wholes := net(make([]api.Span, 5), 0, 1, 2, 3, 4, 2)
	legs := net(make([]api.Span, 5), 2, 0, 1, 3, 2, 4)
	eleven := row(make([]api.Span, 11)...)
	for _, x := range []struct {
		n     total.Net
		group []int
		want  []int
		e     api.Errno
	}{
		{example(0, 13), list(0), list(1, 1, -1, 0, 0), api.OK},
		{example(0, 13), list(1), list(0, 0, 1, 1, -1), api.OK},
		{example(0, 13), list(0, 1), list(1, 1, 0, 1, -1), api.OK},
		{example(14, 20), list(0, 1), list(1, 1, 0, 1, -1), api.OK},
		{apart, list(0), list(1, 1, -1, 0, 0, 0), api.OK},
		{apart, list(1), list(0, 0, 0, 1, 1, -1), api.OK},
		{apart, list(0, 1), nil, api.ErrShape},
		{wholes, list(0, 1), list(1, 1, 0, -1, -1), api.OK},
		{legs, list(0, 1), list(1, -1, 0, -1, 1), api.OK},
		{net(make([]api.Span, 3), 1, 2, 0), list(0), list(1, -1, -1), api.OK},
		{net(make([]api.Span, 4), 3, 1, 2), list(0), list(0, 1, -1, 1), api.OK},
		{star(), list(0, 1), list(0, 1, -1, -1, 1, 0, 0), api.OK},
		{star(), list(0, 2), list(0, 1, -1, 0, 0, 1, 1), api.OK},
		{star(), list(1, 2), list(0, 0, 0, 1, -1, 1, 1), api.OK},
		{star(), list(0, 1, 2), nil, api.ErrShape},
		{eleven, list(0, 1, 2, 3, 4), list(1, 1, 0, 1, 0, 1, 0, 1, 0, 1, -1), api.OK},
		{eleven, list(1, 2, 3), list(0, 0, 1, 1, 0, 1, 0, 1, -1, 0, 0), api.OK},
		{eleven, list(0, 1, 3, 4), nil, api.ErrShape},
		{eleven, list(0, 4), nil, api.ErrShape},
		// linked only through a triangle that is not in the group
		{net(make([]api.Span, 7), 0, 1, 2, 3, 4, 2, 5, 6, 3), list(0, 2), nil, api.ErrShape},
		{net(make([]api.Span, 7), 0, 1, 2, 3, 4, 2, 5, 6, 3), list(0, 1, 2), list(1, 1, 0, 0, -1, -1, -1), api.OK},
		{apart, nil, nil, api.ErrEmpty},
		{apart, list(2), nil, api.ErrNone},
		{apart, list(-1), nil, api.ErrNone},
		{apart, list(math.MinInt), nil, api.ErrNone},
		{apart, list(math.MaxInt), nil, api.ErrNone},
		{apart, list(0, 1, 2), nil, api.ErrNone},
		{apart, list(0, -1), nil, api.ErrNone},
		{apart, list(1, 0, 9), nil, api.ErrOrder},
		{apart, list(1, 9, 0), nil, api.ErrNone},
		{apart, list(0, 0), nil, api.ErrOrder},
		{apart, list(1, 1), nil, api.ErrOrder},
		{net(spans(0, 0)), list(0), nil, api.ErrNone},
		{net(spans(0, 0)), nil, nil, api.ErrEmpty},
	} {
		c, e := total.Equation(x.n, x.group)
		if !slices.Equal(c, x.want) || e != x.e {
			t.Errorf("Equation(%v, %v) = %v %d, want %v %d", x.n, x.group, c, e, x.want, x.e)
		}
		if f := total.Verify(x.n, x.group); e != api.OK && f != x.e {
			t.Errorf("Verify(%v, %v) = %d, want %d", x.n, x.group, f, x.e)
		}
	}
}

// P3.4, P3.7: Squares, Lengths and Suspects; nets without want are not possible.
func TestSquares(t *testing.T) {
	zero := make([]api.Span, 11)
	for _, x := range []struct {
		n        total.Net
		want     []api.Span
		lengths  []api.Span
		suspects []int
	}{
		{example(0, 13), spans(9, 9, 16, 16, 25, 25, 144, 144, 169, 169), spans(3, 3, 4, 4, 5, 5, 12, 12, 13, 13), nil},
		{example(0, 14), spans(9, 9, 16, 25, 25, 34, 144, 144, 169, 178), spans(3, 3, 4, 5, 5, 6, 12, 12, 13, 14), nil},
		{example(14, 20), nil, nil, list(3, 4)},
		{example(0, 12), nil, nil, list(3, 4)},
		// spans that touch, and almost do
		{net(spans(5, 5, 12, 12, 13, 20), 0, 1, 2), spans(25, 25, 144, 144, 169, 169), spans(5, 5, 12, 12, 13, 13), nil},
		{net(spans(5, 5, 12, 12, 14, 20), 0, 1, 2), nil, nil, list(0, 1, 2)},
		{net(spans(5, 9, 12, 20, 0, 13), 0, 1, 2), spans(25, 25, 144, 144, 169, 169), spans(5, 5, 12, 12, 13, 13), nil},
		{net(spans(5, 9, 12, 20, 0, 12), 0, 1, 2), nil, nil, list(0, 1, 2)},
		{net(spans(5, 9, 12, 20, 0, 11), 0, 1, 2), nil, nil, list(1, 2)},
		{net(spans(5, 9, 12, 20, 0, 4), 0, 1, 2), nil, nil, list(2)},
		// without triangles, and with quantities outside of them
		{net(spans(2, 7, 0, 0, 10000, 10000)), spans(4, 49, 0, 0, 100000000, 100000000), spans(2, 7, 0, 0, 10000, 10000), nil},
		{net(spans(1, 2, 3, 4, 1, 1, 2, 3), 3, 0, 1), spans(1, 4, 9, 13, 1, 1, 5, 9), spans(1, 2, 3, 4, 1, 1, 2, 3), nil},
		{net(spans(0, 1, 9, 9, 1, 1, 2, 3), 3, 0, 1), nil, nil, list(0, 1, 3)},
		{row(zero...), zero, zero, nil},
		// five legs and their whole
		{row(spans(1, 1, 1, 1, 0, 9, 1, 1, 0, 9, 1, 1, 0, 9, 1, 1, 0, 9, 1, 1, 0, 9)...), spans(1, 1, 1, 1, 2, 2, 1, 1, 3, 3, 1, 1, 4, 4, 1, 1, 5, 5, 1, 1, 6, 6), spans(1, 1, 1, 1, 1, 2, 1, 1, 1, 2, 1, 1, 2, 2, 1, 1, 2, 3, 1, 1, 2, 3), nil},
		{row(spans(0, 9, 1, 1, 0, 9, 1, 1, 0, 9, 1, 1, 0, 9, 1, 1, 0, 9, 1, 1, 2, 2)...), nil, nil, list(1, 3, 5, 7, 9, 10)},
		{row(spans(0, 9, 1, 1, 0, 9, 1, 1, 0, 9, 1, 1, 0, 9, 1, 1, 0, 9, 1, 1, 3, 3)...), spans(4, 4, 1, 1, 5, 5, 1, 1, 6, 6, 1, 1, 7, 7, 1, 1, 8, 8, 1, 1, 9, 9), spans(2, 2, 1, 1, 2, 3, 1, 1, 2, 3, 1, 1, 2, 3, 1, 1, 2, 3, 1, 1, 3, 3), nil},
		// two that clash on their own, and nothing explains both
		{net(spans(1, 1, 1, 1, 5, 5, 1, 1, 1, 1, 5, 5), 0, 1, 2, 3, 4, 5), nil, nil, nil},
		// two that clash, with a quantity in common
		{net(spans(1, 1, 2, 2, 0, 0, 1, 1, 2, 2), 0, 1, 2, 3, 4, 2), nil, nil, list(2)},
		{net(spans(10000, 10000, 10000, 10000, 0, 10000), 0, 1, 2), nil, nil, list(0, 1, 2)},
		{net(spans(10000, 10000, 0, 10000, 10000, 10000), 0, 1, 2), spans(100000000, 100000000, 0, 0, 100000000, 100000000), spans(10000, 10000, 0, 0, 10000, 10000), nil},
	} {
		possible := len(x.want) > 0
		errors := []api.Errno{api.OK, api.OK, api.OK, api.ErrNone, api.ErrNone}
		if !possible {
			errors = []api.Errno{api.ErrClash, api.ErrClash, api.ErrClash, api.OK, api.OK}
		}
		s, a := total.Squares(x.n)
		l, b := total.Lengths(x.n)
		_, c := total.Truth(x.n, 0, true)
		clash, d := total.Clash(x.n)
		u, e := total.Suspects(x.n)
		if got := []api.Errno{a, b, c, d, e}; !slices.Equal(got, errors) {
			t.Errorf("errors of %v: %v, want %v", x.n, got, errors)
		}
		if !slices.Equal(s, x.want) || !slices.Equal(l, x.lengths) || !slices.Equal(u, x.suspects) {
			t.Errorf("%v: Squares %v, Lengths %v, Suspects %v, want %v %v %v", x.n, s, l, u, x.want, x.lengths, x.suspects)
		}
		if possible != (len(clash) == 0) || !possible && total.Verify(x.n, clash) != api.OK {
			t.Errorf("Clash(%v) = %v", x.n, clash)
		}
	}
}

// P3.5: Truth, with its errors in their order (R1).
func TestTruth(t *testing.T) {
	for _, x := range []struct {
		quantity int
		high     bool
		want     []int
	}{
		{0, false, list(9, 0, 0, 144, 0)},
		{1, false, list(9, 16, 25, 144, 169)},
		{1, true, list(9, 25, 34, 144, 178)},
		{2, false, list(9, 16, 25, 144, 169)},
		{2, true, list(9, 25, 34, 144, 178)},
		{4, false, list(9, 16, 25, 144, 169)},
		{4, true, list(9, 25, 34, 144, 178)},
	} {
		y, e := total.Truth(example(0, 14), x.quantity, x.high)
		if e != api.OK || !holds(example(0, 14), y) || x.quantity > 0 && !slices.Equal(y, x.want) {
			t.Errorf("Truth(%d, %v) = %v %d, want %v", x.quantity, x.high, y, e, x.want)
		}
	}
	for _, x := range []struct {
		n        total.Net
		quantity int
		e        api.Errno
	}{
		{example(0, 14), 5, api.ErrNone},
		{example(0, 14), -1, api.ErrNone},
		{example(0, 14), math.MinInt, api.ErrNone},
		{example(0, 14), math.MaxInt, api.ErrNone},
		{example(14, 20), 5, api.ErrClash},
		{example(14, 20), -1, api.ErrClash},
		{example(14, 20), 0, api.ErrClash},
	} {
		for _, high := range []bool{false, true} {
			if y, e := total.Truth(x.n, x.quantity, high); len(y) > 0 || e != x.e {
				t.Errorf("Truth(%v, %d, %v) = %v %d, want %d", x.n, x.quantity, high, y, e, x.e)
			}
		}
	}
}

// P3.6: Verify, and Clash of the example.
func TestVerify(t *testing.T) {
	touching := spans(5, 5, 12, 12, 13, 13)
	for _, x := range []struct {
		n     total.Net
		group []int
		e     api.Errno
	}{
		{example(14, 20), list(0), api.ErrProof},
		{example(14, 20), list(1), api.OK},
		{example(14, 20), list(0, 1), api.OK},
		{example(0, 12), list(0, 1), api.OK},
		{example(0, 12), list(1), api.ErrProof},
		{example(0, 13), list(0), api.ErrProof},
		{example(0, 13), list(0, 1), api.ErrProof},
		// the sum is 0 in just one case, and never: below it, and above it
		{net(touching, 0, 1, 2), list(0), api.ErrProof},
		{net(spans(5, 5, 11, 11, 13, 13), 0, 1, 2), list(0), api.OK},
		{net(spans(6, 6, 12, 12, 13, 13), 0, 1, 2), list(0), api.OK},
		{net(spans(0, 0, 0, 0, 0, 0), 0, 1, 2), list(0), api.ErrProof},
		{example(14, 20), nil, api.ErrEmpty},
		{example(14, 20), list(2), api.ErrNone},
		{example(14, 20), list(-1), api.ErrNone},
		{example(14, 20), list(1, 0), api.ErrOrder},
		{example(14, 20), list(1, 1), api.ErrOrder},
		{star(), list(0, 1, 2), api.ErrShape},
	} {
		if e := total.Verify(x.n, x.group); e != x.e {
			t.Errorf("Verify(%v, %v) = %d, want %d", x.n, x.group, e, x.e)
		}
	}
	if g, e := total.Clash(example(14, 20)); e != api.OK || !slices.Equal(g, list(1)) && !slices.Equal(g, list(0, 1)) {
		t.Errorf("Clash of the example: %v %d", g, e)
	}
}
