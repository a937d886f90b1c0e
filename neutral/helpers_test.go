package neutral_test

import (
	"math/big"
	"slices"
	"testing"

	"agonic/api"
	"agonic/neutral"
)

func list(l ...int) []int { return l }

func lists(l ...[]int) [][]int { return l }

func part(num, den int) api.Ratio { return api.Ratio{Num: num, Den: den} }

func hundredths(num int) api.Ratio { return part(num, 100) }

// roots returns a list: Up and Times in turn.
func roots(l ...int) []neutral.Root {
	var out []neutral.Root
	for i := 0; i+1 < len(l); i += 2 {
		out = append(out, neutral.Root{Up: l[i], Times: l[i+1]})
	}
	return out
}

// three has the roots 1, 2 and 3; square those of 2; twice 2, which occurs twice.
func three() []int { return list(-6, 11, -6, 1) }

func square() []int { return list(-2, 0, 1) }

func twice() []int { return list(4, -4, 1) }

// dice yields the same numbers in every run.
type dice struct{ state uint64 }

// roll returns a number from a to b.
func (d *dice) roll(a, b int) int {
	d.state = d.state*6364136223846793005 + 1442695040888963407
	return a + int(d.state>>33)%(b-a+1)
}

func (d *dice) pick(l ...int) int { return l[d.roll(0, len(l)-1)] }

// coefficients returns so many numbers, of which the last one is not 0.
func (d *dice) coefficients(count, most int) []int {
	for {
		var out []int
		for range count {
			out = append(out, d.roll(-most, most))
		}
		if out[count-1] != 0 {
			return out
		}
	}
}

// polynomial returns one without an error; often some of its roots are fractions, occur
// several times, or are close to each other.
func (d *dice) polynomial() []int {
	for {
		most := d.pick(1, 2, 3, 5, 7, 50)
		a, b, c := d.coefficients(2, most), d.coefficients(2, most), d.coefficients(2, most)
		p := product(a, product(b, c))
		switch d.roll(0, 8) {
		case 0, 1:
			p = d.coefficients(d.roll(2, 4), most)
		case 2:
			p = product(a, b)
		case 3:
			p = product(a, a)
		case 4:
			p = product(a, product(a, b))
		case 5:
			p = product(a, product(a, a))
		case 6:
			p = product(a, product(a, b))
			p[d.roll(0, 2)] += d.pick(-1, 1)
		case 7:
			p = product(a, d.coefficients(3, most))
		}
		p = product(p, list(d.pick(-3, -1, 1, 1, 2, 5)))
		if trueCheck(p) == api.OK {
			return p
		}
	}
}

// argument returns an argument that is often a root of p, or close to one.
func (d *dice) argument(p []int) api.Ratio {
	den := d.pick(1, 2, 3, 7, 10, 100, d.roll(1, 50))
	l, _ := neutral.Roots(p)
	switch d.roll(0, 6) {
	case 0:
		return part(d.roll(-neutral.MaxNum, neutral.MaxNum), d.roll(1, neutral.MaxDen))
	case 1:
		return part(d.pick(-1, 1)*(neutral.MaxNum-d.roll(0, 1)), d.pick(1, 999, 1000))
	case 2:
		return part(d.roll(-3*den, 3*den), den)
	case 3:
		return part(0, den)
	}
	if len(l) == 0 {
		return part(d.roll(-9, 9), den)
	}
	up := l[d.roll(0, len(l)-1)].Up
	x := part((up*den-d.pick(0, 0, den-1, den/2))/neutral.Unit, den)
	for range d.roll(0, 2) {
		x = part(2*x.Num, 2*x.Den)
	}
	if d.roll(0, 3) == 0 {
		x.Num += d.pick(-1, 1)
	}
	return x
}

// ordered returns so many arguments in ascending order.
func (d *dice) ordered(p []int, count int) []api.Ratio {
	var out []api.Ratio
	for range count {
		out = append(out, d.argument(p))
	}
	slices.SortFunc(out, func(a, b api.Ratio) int { return rat(a).Cmp(rat(b)) })
	return out
}

// everySmall sees all polynomials with coefficients from -3 to 3.
func everySmall(see func(p []int)) {
	var grow func(p []int)
	grow = func(p []int) {
		if len(p) > 1 && p[len(p)-1] != 0 {
			see(slices.Clone(p))
		}
		for c := -3; c <= 3 && len(p) < 4; c++ {
			grow(append(p, c))
		}
	}
	grow(nil)
}

// everyRepeated sees polynomials that the square of a polynomial divides.
func everyRepeated(see func(p []int)) {
	for a := 1; a <= 7; a++ {
		for b := -7; b <= 7; b++ {
			one := product(list(b, a), list(b, a))
			if trueCheck(one) == api.OK {
				see(one)
			}
			for c := 1; c <= 50; c++ {
				for d := -7; d <= 7; d++ {
					if p := product(one, list(d, c)); trueCheck(p) == api.OK {
						see(p)
					}
				}
			}
		}
	}
}

// inside returns what is above 0 if a polynomial of the degree 3 has three different roots,
// and 0 if some root occurs several times; it is small if two roots are close to each other.
func inside(p []int) int {
	d, c, b, a := p[0], p[1], p[2], p[3]
	return 18*a*b*c*d - 4*b*b*b*d + b*b*c*c - 4*a*c*c*c - 27*a*a*d*d
}

// everyClose sees polynomials of which two roots are close to each other.
func everyClose(see func(p []int)) {
	for _, a := range list(-5, 4, 5, 6, 7) {
		for b := -50; b <= 50; b++ {
			for c := -50; c <= 50; c++ {
				for d := -50; d <= 50; d++ {
					p := list(d, c, b, a)
					if n := inside(p); n > 0 && n < 150 {
						see(p)
					}
				}
			}
		}
	}
}

// everyKind sees polynomials of all kinds.
func everyKind(seed uint64, see func(p []int)) {
	everySmall(see)
	everyRepeated(see)
	everyClose(see)
	d := dice{seed}
	for range 1500 {
		see(d.polynomial())
	}
}

func product(p, q []int) []int {
	out := make([]int, len(p)+len(q)-1)
	for i, a := range p {
		for k, b := range q {
			out[i+k] += a * b
		}
	}
	return out
}

// mirrored returns p with the negatives of its coefficients with an odd index.
func mirrored(p []int) []int {
	out := slices.Clone(p)
	for i := 1; i < len(out); i += 2 {
		out[i] = -out[i]
	}
	return out
}

func negative(x api.Ratio) api.Ratio { return part(-x.Num, x.Den) }

func derivative(p []int) []int {
	var out []int
	for k := 1; k < len(p); k++ {
		out = append(out, k*p[k])
	}
	return out
}

func derivatives(p []int) [][]int {
	var out [][]int
	for ; len(p) > 0; p = derivative(p) {
		out = append(out, p)
	}
	return out
}

func trueCheck(p []int) api.Errno {
	switch {
	case len(p) == 0:
		return api.ErrEmpty
	case len(p) > 4:
		return api.ErrMany
	case slices.Max(p) > 50 || slices.Min(p) < -50:
		return api.ErrRange
	case len(p) == 1 || p[len(p)-1] == 0:
		return api.ErrFlat
	}
	return api.OK
}

func isArgument(x api.Ratio) bool {
	return -100000 <= x.Num && x.Num <= 100000 && 1 <= x.Den && x.Den <= 1000
}

func rat(x api.Ratio) *big.Rat { return big.NewRat(int64(x.Num), int64(x.Den)) }

func ratio(n int) *big.Rat { return big.NewRat(int64(n), 1) }

func sum(a, b *big.Rat) *big.Rat { return new(big.Rat).Add(a, b) }

func times(a, b *big.Rat) *big.Rat { return new(big.Rat).Mul(a, b) }

// number is a, and b times the square root of square, which is at least 0.
type number struct {
	a, b   *big.Rat
	square int
}

func exactly(x api.Ratio) number { return number{rat(x), new(big.Rat), 0} }

func (x number) times(y number) number {
	roots := times(times(x.b, y.b), ratio(x.square))
	return number{sum(times(x.a, y.a), roots), sum(times(x.a, y.b), times(x.b, y.a)), x.square}
}

func (x number) plus(y *big.Rat) number { return number{sum(x.a, y), x.b, x.square} }

func (x number) sign() int {
	switch times(x.a, x.a).Cmp(times(times(x.b, x.b), ratio(x.square))) {
	case 1:
		return x.a.Sign()
	case -1:
		return x.b.Sign()
	}
	return max(-1, min(1, x.a.Sign()+x.b.Sign()*min(1, x.square)))
}

// signAt returns the sign of the value of p at x.
func signAt(p []int, x number) int {
	value := number{new(big.Rat), new(big.Rat), x.square}
	for _, c := range slices.Backward(p) {
		value = value.times(x).plus(ratio(c))
	}
	return value.sign()
}

// turns returns where p can turn from rising to falling or back, in ascending order.
func turns(p []int) []number {
	d := derivative(p)
	if len(d) == 2 {
		return []number{exactly(fraction(-d[0], d[1]))}
	}
	if len(d) < 3 || d[1]*d[1] < 4*d[0]*d[2] {
		return nil
	}
	middle, square := fraction(-d[1], 2*d[2]), d[1]*d[1]-4*d[0]*d[2]
	if square == 0 {
		return []number{exactly(middle)}
	}
	size := max(2*d[2], -2*d[2])
	return []number{{rat(middle), rat(part(-1, size)), square}, {rat(middle), rat(part(1, size)), square}}
}

// fraction returns a fraction whose Den is above 0.
func fraction(num, den int) api.Ratio {
	if den < 0 {
		return part(-num, -den)
	}
	return part(num, den)
}

// trueRoots returns how often each root occurs that is greater than a, and at most b, in
// ascending order. Between two places where p can turn, it only rises or only falls.
func trueRoots(p []int, a, b api.Ratio) []int {
	if rat(a).Cmp(rat(b)) >= 0 {
		return nil
	}
	ends := []number{exactly(a)}
	for _, x := range turns(p) {
		if x.plus(rat(negative(a))).sign() > 0 && x.plus(rat(negative(b))).sign() < 0 {
			ends = append(ends, x)
		}
	}
	ends = append(ends, exactly(b))
	var out []int
	for i, x := range ends[1:] {
		if n := occurs(p, x); n > 0 {
			out = append(out, n)
		} else if signAt(p, ends[i])*signAt(p, x) < 0 {
			out = append(out, 1)
		}
	}
	return out
}

// occurs returns how often x is a root of p: how many of the derivatives, p first, are 0 there.
func occurs(p []int, x number) int {
	n := 0
	for _, q := range derivatives(p) {
		if signAt(q, x) != 0 {
			return n
		}
		n++
	}
	return n
}

// trueChanges returns the changes of polynomials at x.
func trueChanges(polynomials [][]int, x api.Ratio) int {
	var signs []int
	for _, p := range polynomials {
		if s := signAt(p, exactly(x)); s != 0 {
			signs = append(signs, s)
		}
	}
	n := 0
	for i := 1; i < len(signs); i++ {
		if signs[i] != signs[i-1] {
			n++
		}
	}
	return n
}

// leanOf returns the lean list of integers that is a positive multiple of fractions, of
// which the last ones are left out if they are 0.
func leanOf(p []*big.Rat) []int {
	for len(p) > 0 && p[len(p)-1].Sign() == 0 {
		p = p[:len(p)-1]
	}
	all, common := big.NewInt(1), new(big.Int)
	for _, c := range p {
		all.Mul(all, c.Denom())
	}
	var out []int
	for _, c := range p {
		common.GCD(nil, nil, common, new(big.Int).Abs(times(c, new(big.Rat).SetInt(all)).Num()))
	}
	for _, c := range p {
		n := times(c, new(big.Rat).SetInt(all)).Num()
		out = append(out, int(n.Quo(n, common).Int64()))
	}
	return out
}

func fractions(p []int) []*big.Rat {
	var out []*big.Rat
	for _, c := range p {
		out = append(out, ratio(c))
	}
	return out
}

// trueCore returns the core by the formulas for roots that occur several times.
func trueCore(p []int) []int {
	core := slices.Clone(p)
	switch {
	case len(p) == 3 && p[1]*p[1] == 4*p[0]*p[2]:
		core = derivative(p)
	case len(p) == 4:
		d, c, b, a := p[0], p[1], p[2], p[3]
		flat := b*b - 3*a*c
		if inside(p) != 0 {
			break
		}
		if flat == 0 {
			core = list(b, 3*a)
			break
		}
		double, single := list(b*c-9*a*d, 2*flat), list(9*a*a*d+b*b*b-4*a*b*c, a*flat)
		core = product(leanOf(fractions(double)), leanOf(fractions(single)))
	}
	if core[len(core)-1] < 0 {
		core = product(core, list(-1))
	}
	return leanOf(fractions(core))
}

// trueChain returns the chain, with fractions as coefficients of remainders.
func trueChain(p []int) [][]int {
	core := trueCore(p)
	out := lists(core, leanOf(fractions(derivative(core))))
	for len(out[len(out)-1]) > 1 {
		by := fractions(out[len(out)-1])
		rest := fractions(out[len(out)-2])
		for len(rest) >= len(by) {
			last := len(rest) - 1
			factor := new(big.Rat).Quo(rest[last], by[len(by)-1])
			for k, c := range by {
				i := len(rest) - len(by) + k
				rest[i] = sum(rest[i], times(times(factor, c), ratio(-1)))
			}
			rest = rest[:last]
		}
		for i := range rest {
			rest[i] = times(rest[i], ratio(-1))
		}
		out = append(out, leanOf(rest))
	}
	return out
}

// sizes returns the results of Count and Fourier, which have no error.
func sizes(t *testing.T, p []int, a, b api.Ratio) (count, fourier int) {
	t.Helper()
	count, e := neutral.Count(p, a, b)
	fourier, f := neutral.Fourier(p, a, b)
	if e != api.OK || f != api.OK {
		t.Fatalf("%v, %v to %v: Count %d, Fourier %d", p, a, b, e, f)
	}
	return count, fourier
}

// found returns the result of Roots, which has no error.
func found(t *testing.T, p []int) []neutral.Root {
	t.Helper()
	l, e := neutral.Roots(p)
	if e != api.OK {
		t.Fatalf("Roots of %v: %d", p, e)
	}
	return l
}

func degree(l []neutral.Root) int {
	n := 0
	for _, r := range l {
		n += r.Times
	}
	return n
}
