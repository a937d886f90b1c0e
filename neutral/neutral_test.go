package neutral_test

import (
	"math"
	"reflect"
	"slices"
	"testing"

	"agonic/api"
	"agonic/neutral"
)

// Terms, Limits: the chapter's limits.
func TestLimits(t *testing.T) {
	if got := list(neutral.MaxFactor, neutral.MaxNum, neutral.MaxDen, neutral.Unit); !slices.Equal(got, list(50, 100000, 1000, 100)) {
		t.Errorf("limits %v", got)
	}
}

// failures returns the errors of all functions, and expects zero values beside them.
func failures(t *testing.T, p []int, a, b api.Ratio) []api.Errno {
	t.Helper()
	all := answers(p, a, b)
	errors := []api.Errno{neutral.Check(p)}
	for i := 1; i < len(all); i += 2 {
		e, result := all[i].(api.Errno), reflect.ValueOf(all[i-1])
		if e != api.OK && !result.IsZero() && (result.Kind() != reflect.Slice || result.Len() > 0) {
			t.Errorf("%v, %v, %v: error %d and %v", p, a, b, e, result)
		}
		errors = append(errors, e)
	}
	return errors
}

// P11.1, and the first error of each function, also if there are others.
func TestBadPolynomials(t *testing.T) {
	for i, x := range []struct {
		p []int
		e api.Errno
	}{
		{nil, api.ErrEmpty},
		{list(), api.ErrEmpty},
		{list(1, 2, 3, 4, 5), api.ErrMany},
		{list(1, 2, 3, 4, 0), api.ErrMany},
		{list(51, 2, 3, 4, 5), api.ErrMany},
		{make([]int, 1000), api.ErrMany},
		{list(51, 1), api.ErrRange},
		{list(-51, 1), api.ErrRange},
		{list(1, 51), api.ErrRange},
		{list(1, -51), api.ErrRange},
		{list(0, 0, 0, 51), api.ErrRange},
		{list(0, 51, 0, 1), api.ErrRange},
		{list(0, 0, -51, 1), api.ErrRange},
		{list(math.MinInt, 1), api.ErrRange},
		{list(1, math.MaxInt), api.ErrRange},
		{list(1, 1, math.MinInt, 1), api.ErrRange},
		{list(51), api.ErrRange},
		{list(-51), api.ErrRange},
		{list(51, 1, 0), api.ErrRange},
		{list(51, 0), api.ErrRange},
		{list(0), api.ErrFlat},
		{list(1), api.ErrFlat},
		{list(-50), api.ErrFlat},
		{list(1, 0), api.ErrFlat},
		{list(0, 0), api.ErrFlat},
		{list(1, 2, 0), api.ErrFlat},
		{list(1, 2, 3, 0), api.ErrFlat},
		{list(0, 0, 0, 0), api.ErrFlat},
	} {
		for _, ends := range [][2]api.Ratio{{part(0, 1), part(1, 1)}, {part(1, 1), part(0, 1)}, {part(0, 0), part(100001, 1)}} {
			for j, e := range failures(t, x.p, ends[0], ends[1]) {
				if e != x.e {
					t.Errorf("polynomial %d, %v, function %d: %d, want %d", i, ends, j, e, x.e)
				}
			}
		}
	}
}

// P11.1: polynomials without an error, at the ends of what is stated.
func TestGoodPolynomials(t *testing.T) {
	for _, p := range lists(list(0, 1), list(50, 50), list(-50, -50), list(50, -50, 50), list(0, 0, 0, -50), list(-50, 50, -50, 50), list(0, 0, 0, 1), list(50, 0, 1)) {
		for j, e := range failures(t, p, part(-100000, 1000), part(100000, 1)) {
			if e != api.OK {
				t.Errorf("%v, function %d: %d", p, j, e)
			}
		}
	}
}

// P11.2, P11.4, P11.6: fractions that are no arguments, and arguments that are not in order;
// each with the errors of Sign, Changes, Count and Fourier.
func TestBadArguments(t *testing.T) {
	r, o := api.ErrRange, api.ErrOrder
	for i, x := range []struct {
		a, b api.Ratio
		want []api.Errno
	}{
		{part(0, 1), part(0, 1), []api.Errno{0, 0, 0, 0}},
		{part(-100000, 1), part(100000, 1), []api.Errno{0, 0, 0, 0}},
		{part(-100000, 1000), part(100000, 1000), []api.Errno{0, 0, 0, 0}},
		{part(-100001, 1), part(0, 1), []api.Errno{r, r, r, r}},
		{part(100001, 1), part(0, 1), []api.Errno{r, r, r, r}},
		{part(100001, 1000), part(200, 1), []api.Errno{r, r, r, r}},
		{part(0, 0), part(0, 1), []api.Errno{r, r, r, r}},
		{part(0, -1), part(0, 1), []api.Errno{r, r, r, r}},
		{part(5, -5), part(0, 1), []api.Errno{r, r, r, r}},
		{part(0, 1001), part(0, 1), []api.Errno{r, r, r, r}},
		{part(math.MinInt, 1), part(0, 1), []api.Errno{r, r, r, r}},
		{part(math.MaxInt, 1), part(0, 1), []api.Errno{r, r, r, r}},
		{part(0, math.MinInt), part(0, 1), []api.Errno{r, r, r, r}},
		{part(0, math.MaxInt), part(0, 1), []api.Errno{r, r, r, r}},
		{part(0, 1), part(100001, 1), []api.Errno{0, 0, r, r}},
		{part(0, 1), part(-100001, 1), []api.Errno{0, 0, r, r}},
		{part(0, 1), part(1, 0), []api.Errno{0, 0, r, r}},
		{part(0, 1), part(1, -1), []api.Errno{0, 0, r, r}},
		{part(0, 1), part(1, 1001), []api.Errno{0, 0, r, r}},
		{part(0, 1), part(math.MinInt, 1), []api.Errno{0, 0, r, r}},
		{part(0, 1), part(math.MaxInt, math.MinInt), []api.Errno{0, 0, r, r}},
		{part(1, 1), part(0, 1), []api.Errno{0, 0, o, o}},
		{part(0, 1), part(-1, 1000), []api.Errno{0, 0, o, o}},
		{part(501, 1000), part(1, 2), []api.Errno{0, 0, o, o}},
		{part(500, 1000), part(1, 2), []api.Errno{0, 0, 0, 0}},
		{part(1, 2), part(500, 1000), []api.Errno{0, 0, 0, 0}},
		{part(499, 1000), part(1, 2), []api.Errno{0, 0, 0, 0}},
		{part(-1, 2), part(-2, 3), []api.Errno{0, 0, o, o}},
		{part(-2, 3), part(-1, 2), []api.Errno{0, 0, 0, 0}},
		{part(100000, 1), part(-100000, 1), []api.Errno{0, 0, o, o}},
		{part(99999, 999), part(99999, 1000), []api.Errno{0, 0, o, o}},
	} {
		for _, p := range lists(three(), square(), twice(), list(0, 1)) {
			all := failures(t, p, x.a, x.b)
			got := []api.Errno{all[1], all[4], all[5], all[7]}
			if !slices.Equal(got, x.want) || all[0] != 0 || all[2] != 0 || all[3] != 0 || all[6] != 0 {
				t.Errorf("%d, %v: %v, want %v", i, p, all, x.want)
			}
		}
	}
}

// P11.2: signs at roots and beside them, far away, and with large numbers.
func TestSign(t *testing.T) {
	for i, x := range []struct {
		p    []int
		x    api.Ratio
		want int
	}{
		{three(), part(5, 2), -1},
		{three(), part(2, 1), 0},
		{three(), part(2000, 1000), 0},
		{three(), part(1999, 1000), 1},
		{three(), part(2001, 1000), -1},
		{three(), part(0, 1000), -1},
		{square(), part(-3, 2), 1},
		{square(), part(1414, 1000), -1},
		{square(), part(1415, 1000), 1},
		{square(), part(99, 70), 1},
		{square(), part(577, 408), 1},
		{square(), part(-577, 408), 1},
		{square(), part(239, 169), -1},
		{list(1, 0, 1), part(0, 1), 1},
		{list(0, 1), part(-1, 1000), -1},
		{list(0, -1), part(-1, 1000), 1},
		{list(-1, 50), part(20, 1000), 0},
		{list(-50, -50, -50, 50), part(100000, 1), 1},
		{list(50, 50, 50, 50), part(-100000, 1), -1},
		{list(50, -50, 50, -50), part(100000, 1), -1},
		{list(-50, -50, -50, -50), part(-100000, 999), 1},
		{list(0, 0, 50, 1), part(-50000, 1000), 0},
		{list(0, 0, 50, 1), part(-50001, 1000), -1},
		{list(0, 0, 50, 1), part(-49999, 1000), 1},
	} {
		if n, e := neutral.Sign(x.p, x.x); n != x.want || e != api.OK {
			t.Errorf("%d: Sign %d %d, want %d", i, n, e, x.want)
		}
	}
}

// P11.3: cores and chains, with elements of which one degree is left out, and with roots
// that occur several times.
func TestChain(t *testing.T) {
	for i, x := range []struct {
		p     []int
		chain [][]int
	}{
		{square(), lists(square(), list(0, 1), list(1))},
		{list(-4, 0, 2), lists(square(), list(0, 1), list(1))},
		{list(50, 0, -25), lists(square(), list(0, 1), list(1))},
		{twice(), lists(list(-2, 1), list(1))},
		{list(1, -2, 1), lists(list(-1, 1), list(1))},
		{list(0, 50), lists(list(0, 1), list(1))},
		{list(0, -50), lists(list(0, 1), list(1))},
		{list(6, 4), lists(list(3, 2), list(1))},
		{list(6, -4), lists(list(-3, 2), list(1))},
		{list(0, 0, 0, -7), lists(list(0, 1), list(1))},
		{list(0, 0, 1, 1), lists(list(0, 1, 1), list(1, 2), list(1))},
		{list(1, 0, 1), lists(list(1, 0, 1), list(0, 1), list(-1))},
		{list(1, 1, 1), lists(list(1, 1, 1), list(1, 2), list(-1))},
		{list(9, -12, 4), lists(list(-3, 2), list(1))},
		{three(), lists(three(), list(11, -12, 3), list(-2, 1), list(1))},
		{list(-2, 0, 0, 2), lists(list(-1, 0, 0, 1), list(0, 0, 1), list(1))},
		{list(1, 0, 0, 1), lists(list(1, 0, 0, 1), list(0, 0, 1), list(-1))},
		{list(0, 3, 0, -3), lists(list(0, -1, 0, 1), list(-1, 0, 3), list(0, 1), list(1))},
		{list(0, 1, 0, 1), lists(list(0, 1, 0, 1), list(1, 0, 3), list(0, -1), list(-1))},
		{list(-1, 1, 1, 2), lists(list(-1, 1, 1, 2), list(1, 2, 6), list(19, -10), list(-1))},
		{list(-2, 1, 0, 0), nil},
	} {
		core, e := neutral.Core(x.p)
		chain, f := neutral.Chain(x.p)
		if x.chain == nil {
			if len(core)+len(chain) > 0 || e != api.ErrFlat || f != api.ErrFlat {
				t.Errorf("%d: Core %v %d, Chain %v %d", i, core, e, chain, f)
			}
			continue
		}
		if !slices.Equal(core, x.chain[0]) || e != api.OK || !slices.EqualFunc(chain, x.chain, slices.Equal[[]int]) || f != api.OK {
			t.Errorf("%d: Core %v %d, Chain %v %d, want %v", i, core, e, chain, f, x.chain)
		}
	}
}

// P11.4: changes at roots of the first and of other elements, and far away.
func TestChanges(t *testing.T) {
	for i, x := range []struct {
		p    []int
		x    api.Ratio
		want int
	}{
		{square(), part(-3, 1), 2},
		{square(), part(0, 1), 1},
		{square(), part(3, 1), 0},
		{square(), part(0, 1000), 1},
		{three(), part(0, 1), 3},
		{three(), part(1, 1), 2},
		{three(), part(2, 1), 1},
		{three(), part(6, 2), 0},
		{three(), part(-100000, 1), 3},
		{three(), part(100000, 1), 0},
		{list(6, -11, 6, -1), part(0, 1), 3},
		{twice(), part(1, 1), 1},
		{twice(), part(2, 1), 0},
		{twice(), part(3, 1), 0},
		{list(1, 0, 1), part(0, 1), 1},
		{list(0, -1, 0, 1), part(0, 1), 1},
		{list(0, -1, 0, 1), part(-1, 1), 2},
		{list(0, 1, 0, 1), part(0, 1), 1},
		{list(0, 1, 0, 1), part(-1, 1), 2},
		{list(0, 1, 0, 1), part(1, 1), 1},
		// Both the first and the third element are 0.
		{list(0, -1, 0, 1), part(0, 7), 1},
	} {
		if n, e := neutral.Changes(x.p, x.x); n != x.want || e != api.OK {
			t.Errorf("%d: Changes %d %d, want %d", i, n, e, x.want)
		}
	}
}

// P11.4, P11.6: roots at both ends, roots that occur several times, and no roots.
func TestCount(t *testing.T) {
	for i, x := range []struct {
		p              []int
		a, b           api.Ratio
		count, fourier int
	}{
		{three(), part(1, 1), part(3, 1), 2, 2},
		{three(), part(0, 1), part(5, 2), 2, 2},
		{three(), part(999, 1000), part(3, 1), 3, 3},
		{three(), part(1, 1), part(2999, 1000), 1, 1},
		{three(), part(1, 1), part(1, 1), 0, 0},
		{three(), part(2, 2), part(3, 3), 0, 0},
		{three(), part(-100000, 1), part(100000, 1), 3, 3},
		{three(), part(-100000, 1), part(-100000, 1), 0, 0},
		{three(), part(6, 3), part(6, 2), 1, 1},
		{square(), part(-2, 1), part(2, 1), 2, 2},
		{square(), part(0, 1), part(1414, 1000), 0, 0},
		{square(), part(1414, 1000), part(1415, 1000), 1, 1},
		{square(), part(-3, 2), part(0, 1), 1, 1},
		{twice(), part(1, 1), part(2, 1), 1, 2},
		{twice(), part(2, 1), part(3, 1), 0, 0},
		{twice(), part(1, 1), part(1999, 1000), 0, 0},
		{list(-8, 12, -6, 1), part(1, 1), part(3, 1), 1, 3},
		{list(0, 0, 0, 1), part(-1, 1000), part(0, 1), 1, 3},
		{list(0, 0, 0, 1), part(0, 1), part(1, 1000), 0, 0},
		{list(2, -3, 0, 1), part(-2, 1), part(1, 1), 1, 2},
		{list(2, -3, 0, 1), part(-3, 1), part(0, 1), 1, 1},
		{list(1, 0, 1), part(-1, 1), part(1, 1), 0, 2},
		{list(1, 0, 1), part(-1, 1), part(0, 1), 0, 2},
		{list(1, 0, 1), part(0, 1), part(1, 1), 0, 0},
		{list(0, 1, 0, 1), part(-1, 1), part(1, 1), 1, 3},
		{list(1, 1), part(-51, 1), part(51, 1), 1, 1},
		{list(-5, -5), part(-51, 1), part(51, 1), 1, 1},
	} {
		count, e := neutral.Count(x.p, x.a, x.b)
		fourier, f := neutral.Fourier(x.p, x.a, x.b)
		if count != x.count || e != api.OK || fourier != x.fourier || f != api.OK {
			t.Errorf("%d: Count %d %d, Fourier %d %d, want %d %d", i, count, e, fourier, f, x.count, x.fourier)
		}
	}
}

// P11.5: roots that are hundredths, beside them, below 0, close to each other, at the
// ends, and such that occur several times.
func TestRoots(t *testing.T) {
	for i, x := range []struct {
		p    []int
		want []neutral.Root
	}{
		{three(), roots(100, 1, 200, 1, 300, 1)},
		{twice(), roots(200, 2)},
		{square(), roots(-141, 1, 142, 1)},
		{list(0, 1), roots(0, 1)},
		{list(0, 0, -3), roots(0, 2)},
		{list(0, 0, 0, 1), roots(0, 3)},
		{list(8, 12, 6, 1), roots(-200, 3)},
		{list(-1, 50), roots(2, 1)},
		{list(1, 50), roots(-2, 1)},
		{list(-1, 49), roots(3, 1)},
		{list(1, 49), roots(-2, 1)},
		{list(-1, 3), roots(34, 1)},
		{list(1, 3), roots(-33, 1)},
		{list(-1, 0, 50), roots(-14, 1, 15, 1)},
		{list(1, 0, 1), nil},
		{list(1, 1, 1), nil},
		{list(1, 0, 0, 1), roots(-100, 1)},
		{list(2, -3, 0, 1), roots(-200, 1, 100, 2)},
		{list(-2, -3, 0, 1), roots(-100, 2, 200, 1)},
		{list(0, 0, -1, 7), roots(0, 2, 15, 1)},
		{list(0, 1, -14, 49), roots(0, 1, 15, 2)},
		{list(0, 1, 14, 49), roots(-14, 2, 0, 1)},
		{list(-1, 5, -8, 4), roots(50, 2, 100, 1)},
		{list(50, 1), roots(-5000, 1)},
		{list(50, -1), roots(5000, 1)},
		{list(-50, -50, -50, 1), roots(5100, 1)},
		{list(50, -50, 50, 1), roots(-5099, 1)},
		// Two roots in one hundredth; the greater one is at its end in some of them.
		{list(15, -38, 21, 4), roots(-674, 1, 75, 1, 75, 1)},
		{list(3, 24, 49, 4), roots(-1174, 1, -25, 1, -25, 1)},
		{list(-1, 13, -43, 5), roots(16, 1, 16, 1, 829, 1)},
		{list(1, -10, 24, 5), roots(-519, 1, 20, 1, 20, 1)},
	} {
		if l, e := neutral.Roots(x.p); !slices.Equal(l, x.want) || e != api.OK {
			t.Errorf("%d: Roots %v %d, want %v", i, l, e, x.want)
		}
	}
}
