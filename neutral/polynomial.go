package neutral

import (
	"cmp"
	"slices"

	"agonic/api"
)

// polynomial is the coefficients of the powers from 0 on, of which the last one is not 0.
// What is left by a division without a remainder is a polynomial without coefficients.
type polynomial []int

func (p polynomial) isConstant() bool { return len(p) < 2 }

func (p polynomial) last() int { return p[len(p)-1] }

// sign returns the sign of the value at x. So that all numbers are integers, the value is
// multiplied by powers of Den, which is above 0.
func (p polynomial) sign(x api.Ratio) int {
	value, power := 0, 1
	for _, c := range slices.Backward(p) {
		value = value*x.Num + c*power
		power *= x.Den
	}
	return cmp.Compare(value, 0)
}

func (p polynomial) times(factor int) polynomial {
	var product polynomial
	for _, c := range p {
		product = append(product, c*factor)
	}
	return product
}

func (p polynomial) derivative() polynomial {
	var derivative polynomial
	for power, c := range p {
		if power > 0 {
			derivative = append(derivative, power*c)
		}
	}
	return derivative
}

// lean returns the only positive multiple that is lean.
func (p polynomial) lean() polynomial {
	most := 0
	for _, c := range p {
		most = divisor(most, c)
	}
	var lean polynomial
	for _, c := range p {
		lean = append(lean, c/most)
	}
	return lean
}

// divisor returns the greatest number that divides two numbers, or 0 if both are 0.
func divisor(a, b int) int {
	for b != 0 {
		a, b = b, a%b
	}
	return max(a, -a)
}

// divide returns positive multiples of the quotient and of the remainder, both of them lean.
func (p polynomial) divide(by polynomial) (quotient, rest polynomial) {
	size, sign := by.last(), 1
	if size < 0 {
		size, sign = -size, -1
	}
	rest = p
	for shift := len(p) - len(by); shift >= 0; shift-- {
		// Both are multiplied by size, so that the next coefficient of the quotient is an integer.
		factor := sign * rest[shift+len(by)-1]
		quotient = append(quotient.times(size), factor)
		rest = rest.times(size)
		for power, c := range by {
			rest[shift+power] -= factor * c
		}
	}
	slices.Reverse(quotient)
	for len(rest) > 0 && rest.last() == 0 {
		rest = rest[:len(rest)-1]
	}
	return quotient.lean(), rest.lean()
}

// repeated returns the polynomial that has the same roots, each of them once less: the
// greatest one that divides both p and its derivative.
func (p polynomial) repeated() polynomial {
	common, next := p.lean(), p.derivative().lean()
	for len(next) > 0 {
		_, rest := common.divide(next)
		common, next = next, rest
	}
	return common
}

func (p polynomial) core() polynomial {
	core, _ := p.divide(p.repeated())
	if core.last() < 0 {
		return core.times(-1)
	}
	return core
}
