package total_test

import (
	"slices"

	"agonic/api"
	"agonic/total"
)

func span(lo, hi int) api.Span { return api.Span{Lo: lo, Hi: hi} }

func list(l ...int) []int { return l }

// spans returns spans: Lo and Hi in turn.
func spans(l ...int) []api.Span {
	var out []api.Span
	for i := 0; i+1 < len(l); i += 2 {
		out = append(out, span(l[i], l[i+1]))
	}
	return out
}

// net returns a net: A, B and Whole of its triangles in turn.
func net(s []api.Span, l ...int) total.Net {
	n := total.Net{Spans: s}
	for i := 0; i+2 < len(l); i += 3 {
		n.Triangles = append(n.Triangles, total.Triangle{A: l[i], B: l[i+1], Whole: l[i+2]})
	}
	return n
}

// example returns N of the chapter's examples, with a span for the quantity 4.
func example(lo, hi int) total.Net {
	return net(spans(3, 3, 4, 5, 0, 6, 12, 12, lo, hi), 0, 1, 2, 2, 3, 4)
}

// star returns a net of three triangles with the quantity 0 in common.
func star() total.Net {
	return net(slices.Repeat(spans(0, 9), 7), 0, 1, 2, 0, 3, 4, 5, 6, 0)
}

// row returns a net of five triangles, each of which shares its whole with the next one.
func row(s ...api.Span) total.Net {
	return net(s, 0, 1, 2, 2, 3, 4, 4, 5, 6, 6, 7, 8, 8, 9, 10)
}

func clone(n total.Net) total.Net {
	return total.Net{Spans: slices.Clone(n.Spans), Triangles: slices.Clone(n.Triangles)}
}

// with returns a net with another span for one quantity.
func with(n total.Net, quantity int, s api.Span) total.Net {
	n = clone(n)
	n.Spans[quantity] = s
	return n
}

// without returns a net without one of its triangles.
func without(n total.Net, t int) total.Net {
	n = clone(n)
	n.Triangles = slices.Delete(n.Triangles, t, t+1)
	return n
}

func of(t total.Triangle) []int { return list(t.A, t.B, t.Whole) }

// dice yields the same numbers in every run.
type dice struct{ state uint64 }

// roll returns a number from a to b.
func (d *dice) roll(a, b int) int {
	d.state = d.state*6364136223846793005 + 1442695040888963407
	return a + int(d.state>>33)%(b-a+1)
}

func (d *dice) shuffled(n int) []int {
	order := make([]int, n)
	for i := range order {
		j := d.roll(0, i)
		order[i] = order[j]
		order[j] = i
	}
	return order
}

// parts tells which quantities are connected: those with one number.
func parts(n total.Net) []int {
	part := make([]int, len(n.Spans))
	for q := range part {
		part[q] = q
	}
	for _, t := range n.Triangles {
		merged := list(part[t.A], part[t.B], part[t.Whole])
		for q := range part {
			if slices.Contains(merged, part[q]) {
				part[q] = merged[0]
			}
		}
	}
	return part
}

// joined returns a net with one more triangle, if it finds one that closes no ring.
func (d *dice) joined(n total.Net) total.Net {
	if len(n.Triangles) == total.MaxTriangles || len(n.Spans) < 3 {
		return n
	}
	part := parts(n)
	for range 30 {
		q := d.shuffled(len(n.Spans))
		if part[q[0]] != part[q[1]] && part[q[0]] != part[q[2]] && part[q[1]] != part[q[2]] {
			n = clone(n)
			at := d.roll(0, len(n.Triangles))
			n.Triangles = slices.Insert(n.Triangles, at, total.Triangle{A: q[0], B: q[1], Whole: q[2]})
			return n
		}
	}
	return n
}

// net returns a valid net of any spans.
func (d *dice) net(quantities, triangles, most int) total.Net {
	var n total.Net
	for range quantities {
		lo := d.roll(0, most)
		n.Spans = append(n.Spans, span(lo, d.roll(lo, most)))
	}
	for range triangles {
		n = d.joined(n)
	}
	return n
}

// truth returns squares for which all triangles hold, none of them above the greatest one.
func (d *dice) truth(n total.Net, greatest int) []int {
	squares := slices.Repeat(list(-1), len(n.Spans))
	known := func(q int) bool { return squares[q] >= 0 }
	for left := slices.Clone(n.Triangles); len(left) > 0; {
		at := max(0, slices.IndexFunc(left, func(t total.Triangle) bool { return slices.ContainsFunc(of(t), known) }))
		t := left[at]
		left = slices.Delete(left, at, at+1)
		if !slices.ContainsFunc(of(t), known) {
			squares[t.Whole] = d.roll(0, greatest)
		}
		if known(t.B) {
			t.A, t.B = t.B, t.A
		}
		if known(t.Whole) {
			squares[t.A] = d.roll(0, squares[t.Whole])
			squares[t.B] = squares[t.Whole] - squares[t.A]
			continue
		}
		squares[t.B] = d.roll(0, greatest-squares[t.A])
		squares[t.Whole] = squares[t.A] + squares[t.B]
	}
	for q, s := range squares {
		if s < 0 {
			squares[q] = d.roll(0, greatest)
		}
	}
	return squares
}

// around returns a net whose spans contain the roots of squares.
func (d *dice) around(n total.Net, squares []int, slack int) total.Net {
	n = clone(n)
	for q, s := range squares {
		lo, hi := trueRoot(s)
		n.Spans[q] = span(max(0, lo-d.roll(0, slack)), min(total.MaxField, hi+d.roll(0, slack)))
	}
	return n
}

// mixed returns a net that is possible, one that differs from it by a single span, or any one.
func (d *dice) mixed() total.Net {
	n := d.net(d.roll(1, total.MaxQuantities), d.roll(0, total.MaxTriangles), total.MaxField)
	kind := d.roll(0, 3)
	if kind == 0 {
		return d.net(len(n.Spans), len(n.Triangles), list(3, 20, total.MaxField)[d.roll(0, 2)])
	}
	greatest := list(20, 400, 10000, total.MaxField*total.MaxField)[d.roll(0, 3)]
	out := d.around(n, d.truth(n, greatest), list(0, 1, 9, 2000)[d.roll(0, 3)])
	if d.roll(0, 1) == 0 {
		out = opened(out)
	}
	if kind == 1 {
		q := d.roll(0, len(n.Spans)-1)
		out.Spans[q] = n.Spans[q]
	}
	return out
}

// opened returns a net that knows nothing of quantities in several triangles.
func opened(n total.Net) total.Net {
	n = clone(n)
	for q := range n.Spans {
		uses := 0
		for _, t := range n.Triangles {
			if slices.Contains(of(t), q) {
				uses++
			}
		}
		if uses > 1 {
			n.Spans[q] = span(0, total.MaxField)
		}
	}
	return n
}

// trueRoot returns the integers around a root, one bit after the other.
func trueRoot(square int) (lo, hi int) {
	for bit := 1 << 26; bit > 0; bit /= 2 {
		if (lo+bit)*(lo+bit) <= square {
			lo += bit
		}
	}
	if lo*lo == square {
		return lo, lo
	}
	return lo, lo + 1
}

// trueEquation tries all signs of a group's triangles: those for which quantities in
// two of them cancel are two, the one the negative of the other, if it is a group.
func trueEquation(n total.Net, group []int) ([]int, bool) {
	var found [][]int
	for signs := range 1 << len(group) {
		sum, uses := make([]int, len(n.Spans)), make([]int, len(n.Spans))
		for i, t := range group {
			sign := 1 - 2*(signs>>i&1)
			for j, q := range of(n.Triangles[t]) {
				sum[q] += list(sign, sign, -sign)[j]
				uses[q]++
			}
		}
		cancels := true
		for q := range sum {
			if uses[q] > 2 {
				return nil, false
			}
			cancels = cancels && (uses[q] < 2 || sum[q] == 0)
		}
		if cancels {
			found = append(found, sum)
		}
	}
	if len(found) != 2 {
		return nil, false
	}
	first := slices.IndexFunc(found[0], func(c int) bool { return c != 0 })
	if found[0][first] == 1 {
		return found[0], true
	}
	return found[1], true
}

// equations returns the equations of all groups.
func equations(n total.Net) [][]int {
	var out [][]int
	for chosen := range 1 << len(n.Triangles) {
		var group []int
		for t := range n.Triangles {
			if chosen>>t&1 == 1 {
				group = append(group, t)
			}
		}
		if c, ok := trueEquation(n, group); ok && len(group) > 0 {
			out = append(out, c)
		}
	}
	return out
}

// reach returns the smallest and the greatest sum of coefficients times squares of
// numbers within bounds on the squares.
func reach(squares []api.Span, coefficients []int) (lo, hi int) {
	for q, c := range coefficients {
		a, b := c*squares[q].Lo, c*squares[q].Hi
		lo += min(a, b)
		hi += max(a, b)
	}
	return lo, hi
}

// own returns the squares that the spans alone allow.
func own(n total.Net) []api.Span {
	out := slices.Clone(n.Spans)
	for q, s := range out {
		out[q] = span(s.Lo*s.Lo, s.Hi*s.Hi)
	}
	return out
}

// trueClash reports whether a sum is never 0.
func trueClash(squares []api.Span, coefficients []int) bool {
	lo, hi := reach(squares, coefficients)
	return lo > 0 || hi < 0
}

// contradicted reports whether some group is a clash, for bounds on the squares.
func contradicted(n total.Net, squares []api.Span) bool {
	return slices.ContainsFunc(equations(n), func(c []int) bool { return trueClash(squares, c) })
}

// trueSquares returns what the groups of which a quantity is an end say of its square, and its own span.
func trueSquares(n total.Net, quantity int) api.Span {
	squares := own(n)
	out := squares[quantity]
	for _, c := range equations(n) {
		sign := c[quantity]
		if sign == 0 {
			continue
		}
		c[quantity] = 0
		lo, hi := reach(squares, c)
		if sign == 1 {
			lo, hi = -hi, -lo
		}
		out = span(max(out.Lo, lo), min(out.Hi, hi))
	}
	return out
}

// trueSuspects frees each quantity in turn.
func trueSuspects(n total.Net) []int {
	var out []int
	for q := range n.Spans {
		squares := own(n)
		squares[q] = span(0, 1<<40)
		if !contradicted(n, squares) {
			out = append(out, q)
		}
	}
	return out
}

// holds reports whether squares are a truth.
func holds(n total.Net, squares []int) bool {
	if len(squares) != len(n.Spans) {
		return false
	}
	for q, s := range own(n) {
		if squares[q] < s.Lo || squares[q] > s.Hi {
			return false
		}
	}
	for _, t := range n.Triangles {
		if squares[t.A]+squares[t.B] != squares[t.Whole] {
			return false
		}
	}
	return true
}

// enumerated returns the least and the greatest squares in all truths of integer
// squares within bounds, and whether there are any: one number after the other is tried.
func enumerated(n total.Net, bounds []api.Span) (ends []api.Span, some bool) {
	squares := make([]int, len(bounds))
	var try func(q int)
	try = func(q int) {
		if q < len(squares) {
			for s := bounds[q].Lo; s <= bounds[q].Hi; s++ {
				squares[q] = s
				if fits(n, squares[:q+1]) {
					try(q + 1)
				}
			}
			return
		}
		if !some {
			some = true
			for _, s := range squares {
				ends = append(ends, span(s, s))
			}
		}
		for i, s := range squares {
			ends[i] = span(min(ends[i].Lo, s), max(ends[i].Hi, s))
		}
	}
	try(0)
	return ends, some
}

// fits reports whether all triangles hold of which all squares are there.
func fits(n total.Net, squares []int) bool {
	for _, t := range n.Triangles {
		if max(t.A, t.B, t.Whole) < len(squares) && squares[t.A]+squares[t.B] != squares[t.Whole] {
			return false
		}
	}
	return true
}
