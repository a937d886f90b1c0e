package period

import (
	"cmp"

	"agonic/api"
)

// fraction is a fraction that need not be reduced. But for a neighbour on a path, its Den is above 0.
type fraction api.Ratio

func whole(n int) fraction { return fraction{n, 1} }

func (f fraction) compare(o fraction) int { return cmp.Compare(f.Num*o.Den, o.Num*f.Den) }

func (f fraction) reduced() api.Ratio {
	a, b := f.Num, f.Den
	for b != 0 {
		a, b = b, a%b
	}
	return api.Ratio{Num: f.Num / a, Den: f.Den / a}
}

// reach is the periods from one fraction to another one; it is empty if the first one is greater.
type reach struct{ from, to fraction }

func (r reach) isEmpty() bool { return r.from.compare(r.to) > 0 }

// cut returns the periods of a reach that are within limits.
func (r reach) cut(below, above fraction) reach {
	if below.compare(r.from) > 0 {
		r.from = below
	}
	if above.compare(r.to) < 0 {
		r.to = above
	}
	return r
}

// counts returns how many periods of a reach can be within a time.
func (r reach) counts(time api.Span) (fewest, most int) {
	fewest = (time.Lo*r.to.Den + r.to.Num - 1) / r.to.Num
	most = time.Hi * r.from.Den / r.from.Num
	return fewest, most
}
