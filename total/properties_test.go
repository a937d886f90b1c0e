package total_test

import (
	"slices"
	"testing"

	"agonic/api"
	"agonic/total"
)

// inside reports whether each span lies within another one.
func inside(narrow, wide []api.Span) bool {
	for i, s := range narrow {
		if s.Lo < wide[i].Lo || s.Hi > wide[i].Hi {
			return false
		}
	}
	return len(narrow) == len(wide)
}

// checkPossible expects that a net is possible, compares its squares with what all
// groups say of them, and looks for a truth at each end.
func checkPossible(t *testing.T, n total.Net) {
	t.Helper()
	squares, a := total.Squares(n)
	lengths, b := total.Lengths(n)
	clash, c := total.Clash(n)
	suspects, d := total.Suspects(n)
	if a != api.OK || b != api.OK || c != api.ErrNone || d != api.ErrNone || len(clash) > 0 || len(suspects) > 0 {
		t.Fatalf("%v is possible: Squares %d, Lengths %d, Clash %v %d, Suspects %v %d", n, a, b, clash, c, suspects, d)
	}
	for q := range n.Spans {
		lo, _ := trueRoot(squares[q].Lo)
		_, hi := trueRoot(squares[q].Hi)
		if squares[q] != trueSquares(n, q) || lengths[q] != span(lo, hi) {
			t.Fatalf("%v, quantity %d: Squares %v, Lengths %v, want %v", n, q, squares[q], lengths[q], trueSquares(n, q))
		}
		low, e := total.Truth(n, q, false)
		high, f := total.Truth(n, q, true)
		if e != api.OK || f != api.OK || !holds(n, low) || !holds(n, high) || low[q] != squares[q].Lo || high[q] != squares[q].Hi {
			t.Fatalf("%v: Truth(%d) = %v %d, %v %d, but Squares %v", n, q, low, e, high, f, squares)
		}
	}
}

// checkClash expects that a net is not possible, and compares what follows with all groups.
func checkClash(t *testing.T, n total.Net) int {
	t.Helper()
	for i, e := range failures(t, n, list(9), 0, true)[1:4] {
		if e != api.ErrClash {
			t.Fatalf("%v is not possible: function %d returns %d", n, i, e)
		}
	}
	group, e := total.Clash(n)
	equation, f := total.Equation(n, group)
	if e != api.OK || f != api.OK || total.Verify(n, group) != api.OK || !trueClash(own(n), equation) {
		t.Fatalf("Clash(%v) = %v %d, Equation %v %d", n, group, e, equation, f)
	}
	suspects, e := total.Suspects(n)
	if !slices.Equal(suspects, trueSuspects(n)) || e != api.OK {
		t.Fatalf("Suspects(%v) = %v %d, want %v", n, suspects, e, trueSuspects(n))
	}
	return len(suspects)
}

// P3.4 to P3.8, P3.10, G3, G4: nets of all sizes, against the equations of all their groups.
func TestAgainstGroups(t *testing.T) {
	d := dice{2}
	possible, suspects := 0, [total.MaxQuantities + 1]int{}
	for range 12000 {
		n := d.mixed()
		if e := total.Check(n); e != api.OK {
			t.Fatalf("Check(%v) = %d", n, e)
		}
		if contradicted(n, own(n)) {
			suspects[checkClash(t, n)]++
			continue
		}
		checkPossible(t, n)
		possible++
	}
	if possible < 2000 || slices.Min(suspects[:5]) < 20 {
		t.Errorf("too few of one kind: %d possible, suspects %v", possible, suspects)
	}
}

// P3.4, P3.7, P3.8, G1, G3: small nets, against an enumeration of all truths in integer squares.
func TestAgainstTruths(t *testing.T) {
	d := dice{3}
	count := [2]int{}
	for range 1500 {
		n := d.net(d.roll(3, 7), d.roll(1, 3), 3)
		want, some := enumerated(n, own(n))
		squares, e := total.Squares(n)
		if some != (e == api.OK) || !some && e != api.ErrClash || !slices.Equal(squares, want) {
			t.Fatalf("Squares(%v) = %v %d, want %v", n, squares, e, want)
		}
		if some {
			count[0]++
			continue
		}
		count[1]++
		var freeing []int
		for q := range n.Spans {
			// No square of such a net is greater if the other ones are within their spans.
			bounds := own(n)
			bounds[q] = span(0, 18)
			if _, possible := enumerated(n, bounds); possible {
				freeing = append(freeing, q)
			}
		}
		if suspects, e := total.Suspects(n); !slices.Equal(suspects, freeing) || e != api.OK {
			t.Fatalf("Suspects(%v) = %v %d, want %v", n, suspects, e, freeing)
		}
	}
	if count[0] < 300 || count[1] < 300 {
		t.Errorf("too few of one kind: %v", count)
	}
}

// The same for all spans of a single triangle from 0 to 3.
func TestSmallTriangles(t *testing.T) {
	var all []api.Span
	for lo := range 4 {
		for hi := lo; hi < 4; hi++ {
			all = append(all, span(lo, hi))
		}
	}
	for _, a := range all {
		for _, b := range all {
			for _, c := range all {
				n := net([]api.Span{a, b, c}, 2, 0, 1)
				want, some := enumerated(n, own(n))
				if squares, e := total.Squares(n); some != (e == api.OK) || !slices.Equal(squares, want) {
					t.Fatalf("Squares(%v) = %v %d, want %v", n, squares, e, want)
				}
			}
		}
	}
}

// P3.3, P3.6: all lists of triangles, against all signs that they can have.
func TestAllGroups(t *testing.T) {
	d := dice{4}
	count := map[api.Errno]int{}
	for range 1000 {
		n := d.net(d.roll(3, total.MaxQuantities), total.MaxTriangles, list(2, 50, total.MaxField)[d.roll(0, 2)])
		for chosen := 1; chosen < 1<<len(n.Triangles); chosen++ {
			var group []int
			for i := range n.Triangles {
				if chosen>>i&1 == 1 {
					group = append(group, i)
				}
			}
			want, ok := trueEquation(n, group)
			equation, e := total.Equation(n, group)
			verify := total.Verify(n, group)
			wanted := api.ErrShape
			if ok && trueClash(own(n), want) {
				wanted = api.OK
			} else if ok {
				wanted = api.ErrProof
			}
			if ok != (e == api.OK) || !slices.Equal(equation, want) || verify != wanted || !ok && e != api.ErrShape {
				t.Fatalf("%v, %v: Equation %v %d, Verify %d, want %v %d", n, group, equation, e, verify, want, wanted)
			}
			count[verify]++
		}
	}
	if count[api.OK] < 1000 || count[api.ErrProof] < 1000 || count[api.ErrShape] < 1000 {
		t.Errorf("too few of one kind: %v", count)
	}
}

// P3.9, G1: whatever is true lies within Squares and Lengths.
func TestTruthsAreWithin(t *testing.T) {
	d := dice{5}
	for range 4000 {
		n := d.net(d.roll(1, total.MaxQuantities), d.roll(0, total.MaxTriangles), 0)
		truth := d.truth(n, list(50, 5000, total.MaxField*total.MaxField)[d.roll(0, 2)])
		n = d.around(n, truth, list(0, 3, 3000)[d.roll(0, 2)])
		squares, e := total.Squares(n)
		lengths, f := total.Lengths(n)
		if e != api.OK || f != api.OK {
			t.Fatalf("%v is possible: %d %d", n, e, f)
		}
		for q, s := range truth {
			if s < squares[q].Lo || s > squares[q].Hi || s < lengths[q].Lo*lengths[q].Lo || s > lengths[q].Hi*lengths[q].Hi {
				t.Fatalf("%v: Squares %v, Lengths %v, but %v is true", n, squares, lengths, truth)
			}
		}
	}
}

// P3.11, G1: narrower spans, or one more triangle, make nothing wider, and nothing possible.
func TestMoreKnowledge(t *testing.T) {
	d := dice{6}
	count := [2]int{}
	for range 4000 {
		n := d.mixed()
		q := d.roll(0, len(n.Spans)-1)
		lo := d.roll(n.Spans[q].Lo, n.Spans[q].Hi)
		others := []total.Net{d.joined(n), with(n, q, span(lo, d.roll(lo, n.Spans[q].Hi)))}
		before, e := total.Squares(n)
		for i, other := range others {
			after, f := total.Squares(other)
			if e == api.ErrClash && f != api.ErrClash || e == api.OK && f == api.OK && !inside(after, before) {
				t.Fatalf("Squares(%v) = %v %d, of %v: %v %d", n, before, e, other, after, f)
			}
			if f == api.OK && !slices.Equal(after, before) {
				count[i]++
			}
		}
	}
	if count[0] < 100 || count[1] < 100 {
		t.Errorf("too few of one kind: %v", count)
	}
}

// P3.12: if a single span does not contain the truth, its quantity is suspect.
func TestOneInError(t *testing.T) {
	d := dice{7}
	wrong := 0
	for range 4000 {
		n := d.net(d.roll(1, total.MaxQuantities), d.roll(0, total.MaxTriangles), 0)
		truth := d.truth(n, list(50, 5000, total.MaxField*total.MaxField)[d.roll(0, 2)])
		q := d.roll(0, len(n.Spans)-1)
		lo := d.roll(0, total.MaxField)
		n = with(d.around(n, truth, d.roll(0, 20)), q, span(lo, d.roll(lo, total.MaxField)))
		suspects, e := total.Suspects(n)
		if e == api.ErrNone {
			continue
		}
		if wrong++; e != api.OK || !slices.Contains(suspects, q) {
			t.Fatalf("Suspects(%v) = %v %d, but only %d is in error", n, suspects, e, q)
		}
	}
	if wrong < 1000 {
		t.Errorf("only %d nets with an error", wrong)
	}
}

// P3.12: also if the true value of the quantity is above MaxField.
func TestFarInError(t *testing.T) {
	n := net(spans(10000, 10000, 10000, 10000, 0, 10000, 10000, 10000), 0, 1, 2)
	if suspects, e := total.Suspects(n); !slices.Equal(suspects, list(0, 1, 2)) || e != api.OK {
		t.Errorf("Suspects(%v) = %v %d", n, suspects, e)
	}
	top := slices.Repeat(spans(10000, 10000), 11)
	for _, q := range list(2, 4, 6, 8) {
		top[q] = span(0, 10000)
	}
	if suspects, e := total.Suspects(row(top...)); len(suspects) > 0 || e != api.OK {
		t.Errorf("Suspects(%v) = %v %d", top, suspects, e)
	}
}

// renumbered returns a net whose triangles and quantities stand in another order, with
// legs exchanged here and there, and the new number of each quantity.
func (d *dice) renumbered(n total.Net) (total.Net, []int) {
	numbers := d.shuffled(len(n.Spans))
	out := total.Net{Spans: make([]api.Span, len(n.Spans))}
	for q, s := range n.Spans {
		out.Spans[numbers[q]] = s
	}
	for _, i := range d.shuffled(len(n.Triangles)) {
		t := n.Triangles[i]
		if d.roll(0, 1) == 0 {
			t.A, t.B = t.B, t.A
		}
		out.Triangles = append(out.Triangles, total.Triangle{A: numbers[t.A], B: numbers[t.B], Whole: numbers[t.Whole]})
	}
	return out, numbers
}

// P3.13, G5: numbering and order do not matter.
func TestOrder(t *testing.T) {
	d := dice{8}
	for range 4000 {
		n := d.mixed()
		other, numbers := d.renumbered(n)
		a, e := total.Squares(n)
		b, f := total.Squares(other)
		c, _ := total.Lengths(n)
		l, _ := total.Lengths(other)
		if total.Check(other) != api.OK || e != f {
			t.Fatalf("Squares(%v): %d, of %v: %d", n, e, other, f)
		}
		for q := range a {
			if a[q] != b[numbers[q]] || c[q] != l[numbers[q]] {
				t.Fatalf("%v: %v %v, but of %v: %v %v", n, a, c, other, b, l)
			}
		}
		suspects, e := total.Suspects(n)
		for i, q := range suspects {
			suspects[i] = numbers[q]
		}
		slices.Sort(suspects)
		if want, f := total.Suspects(other); !slices.Equal(suspects, want) || e != f {
			t.Fatalf("Suspects(%v): %v %d, of %v: %v %d", n, suspects, e, other, want, f)
		}
	}
}

// P3.1, P3.13: a triangle is refused just if two of its quantities are connected, whatever the order of those before it.
func TestRings(t *testing.T) {
	d := dice{9}
	count := map[api.Errno]int{}
	for range 4000 {
		n := d.net(d.roll(3, total.MaxQuantities), d.roll(0, total.MaxTriangles-1), total.MaxField)
		n, _ = d.renumbered(n)
		part, q := parts(n), d.shuffled(len(n.Spans))
		want := api.OK
		if part[q[0]] == part[q[1]] || part[q[0]] == part[q[2]] || part[q[1]] == part[q[2]] {
			want = api.ErrFold
		}
		n.Triangles = append(n.Triangles, total.Triangle{A: q[0], B: q[1], Whole: q[2]})
		e := total.Check(n)
		if other, _ := d.renumbered(n); e != want || total.Check(other) != want {
			t.Fatalf("Check(%v) = %d, of %v: %d, want %d", n, e, other, total.Check(other), want)
		}
		count[e]++
	}
	if count[api.OK] < 500 || count[api.ErrFold] < 500 {
		t.Errorf("too few of one kind: %v", count)
	}
}
