package card

import (
	"cmp"

	"agonic/api"
)

// fraction is a reduced fraction.
type fraction api.Ratio

func whole(n int) fraction { return fraction{n, 1} }

// reduced returns the reduced form of a fraction with a denominator above 0.
func reduced(num, den int) fraction {
	d := divisor(num, den)
	return fraction{num / d, den / d}
}

// divisor returns the greatest number that divides two numbers, of which the second is above 0.
func divisor(a, b int) int {
	for b != 0 {
		a, b = b, a%b
	}
	return max(a, -a)
}

// plus returns a sum. Its denominators are the smallest common ones: products of the
// denominators of three cards one after the other would exceed 64 bits.
func (f fraction) plus(others ...fraction) fraction {
	for _, o := range others {
		common := f.Den / divisor(f.Den, o.Den) * o.Den
		f = reduced(f.Num*(common/f.Den)+o.Num*(common/o.Den), common)
	}
	return f
}

// times returns a part of a fraction.
func (f fraction) times(num, den int) fraction { return reduced(f.Num*num, f.Den*den) }

func (f fraction) below(n int) bool { return f.Num < n*f.Den }

func (f fraction) compare(o fraction) int { return cmp.Compare(f.Num*o.Den, o.Num*f.Den) }

// back returns the same heading in the turn that begins at 0.
func (f fraction) back() fraction { return fraction{back(f.Num, api.Turn*f.Den), f.Den} }

// back returns the same heading in the turn that begins at 0. No sum or difference of a
// heading and a course is two turns away from there.
func back(heading, turn int) int {
	switch {
	case heading < -turn:
		heading += turn
		fallthrough
	case heading < 0:
		heading += turn
	case heading >= turn:
		heading -= turn
	}
	return heading
}
