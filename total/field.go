package total

import "agonic/api"

// field is the squares that each quantity can have.
type field []squares

// stated returns what the spans alone say.
func (n Net) stated() field {
	f := make(field, len(n.Spans))
	for q, s := range n.Spans {
		f[q] = squared(s)
	}
	return f
}

// limit leaves to a quantity what an operation with another one allows.
func (f field) limit(quantity int, operation func(squares) squares, other int) {
	f[quantity] = f[quantity].both(operation(f[other]))
}

// revise leaves to each quantity of a triangle what the two others allow, and reports
// whether something is left: to the whole or else to none, as it is a sum of legs.
func (f field) revise(t Triangle) bool {
	f.limit(t.Whole, f[t.A].plus, t.B)
	f.limit(t.A, f[t.Whole].minus, t.B)
	f.limit(t.B, f[t.Whole].minus, t.A)
	return !f[t.Whole].empty()
}

// narrowed returns the squares that quantities of a field have in truths, if there
// are any. There are no rings, so that whatever is known of one quantity has reached
// all others after as many rounds as there are triangles.
func (n Net) narrowed(f field) (field, bool) {
	left := make(field, len(f))
	copy(left, f)
	for range n.Triangles {
		for _, t := range n.Triangles {
			if !left.revise(t) {
				return nil, false
			}
		}
	}
	return left, true
}

// known returns the squares that quantities have in truths.
func (n Net) known() (field, api.Errno) {
	if e := Check(n); e != api.OK {
		return nil, e
	}
	left, possible := n.narrowed(n.stated())
	if !possible {
		return nil, api.ErrClash
	}
	return left, api.OK
}

// freeing returns the quantities without whose spans a net is possible.
func (n Net) freeing() []int {
	// No sum of two squares reaches MaxRoot, so this stands for all numbers from 0 on.
	anything := squares{api.Span{Lo: 0, Hi: MaxRoot}}
	var found []int
	all := n.stated()
	for q, own := range all {
		all[q] = anything
		if _, possible := n.narrowed(all); possible {
			found = append(found, q)
		}
		all[q] = own
	}
	return found
}

// clashes reports whether the sum of squares with these coefficients is never 0.
func (n Net) clashes(coefficients []int) bool {
	var sum squares
	for q, s := range n.stated() {
		switch coefficients[q] {
		case 1:
			sum = sum.plus(s)
		case -1:
			sum = sum.minus(s)
		}
	}
	return sum.Lo > 0 || sum.Hi < 0
}
