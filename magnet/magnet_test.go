package magnet_test

import (
	"math"
	"slices"
	"testing"

	"agonic/api"
	"agonic/magnet"
)

// Terms, Limits: the chapter's limits.
func TestLimits(t *testing.T) {
	if got := list(magnet.MaxPull, magnet.MaxIron, magnet.MaxChoice, magnet.MaxSquare); !slices.Equal(got, list(1000, 10000, 100000000, 1000000000)) {
		t.Errorf("limits %v", got)
	}
}

// question is what is asked of a kit.
type question struct {
	iron          magnet.Vector
	c             magnet.Choice
	first, second magnet.Choice
	square        int
}

// failures returns the errors of all functions, and expects zero values beside them.
func failures(t *testing.T, k magnet.Kit, q question) []api.Errno {
	t.Helper()
	reduced, a := magnet.Reduced(k)
	first, second, b := magnet.Reduce(k)
	shortest, c := magnet.Shortest(k)
	rest, d := magnet.Rest(k, q.iron, q.c)
	f := magnet.Verify(k, q.first, q.second, q.iron, q.c)
	one, left, g := magnet.Best(k, q.iron)
	all, h := magnet.All(k, q.iron)
	count, i := magnet.Within(k, q.iron, q.square)
	none, nothing := choice(0, 0), vector(0, 0)
	if a != api.OK && reduced || b != api.OK && (first != none || second != none) || c != api.OK && shortest != 0 || d != api.OK && rest != nothing || g != api.OK && (one != none || left != nothing) || h != api.OK && len(all) > 0 || i != api.OK && count != 0 {
		t.Errorf("%v %v, an error and %v, %v, %v, %v, %v, %v, %v, %v, %v", k, q, reduced, first, second, shortest, rest, one, left, all, count)
	}
	return []api.Errno{magnet.Check(k), a, b, c, d, f, g, h, i}
}

// P6.1, and the first error of each function, also if there are others.
func TestBadKits(t *testing.T) {
	for i, x := range []struct {
		k magnet.Kit
		e api.Errno
	}{
		{wide(), api.ErrRange},
		{kit(-1001, 0, 0, 1), api.ErrRange},
		{kit(0, 1001, 1, 0), api.ErrRange},
		{kit(0, -1001, 1, 0), api.ErrRange},
		{kit(1, 0, 1001, 1), api.ErrRange},
		{kit(1, 0, -1001, 1), api.ErrRange},
		{kit(1, 0, 0, 1001), api.ErrRange},
		{kit(1, 0, 0, -1001), api.ErrRange},
		{kit(math.MinInt, 0, 0, 1), api.ErrRange},
		{kit(0, math.MaxInt, 1, 0), api.ErrRange},
		{kit(1, 0, math.MaxInt, 1), api.ErrRange},
		{kit(1, 0, 0, math.MinInt), api.ErrRange},
		// Both errors.
		{kit(1001, 0, 0, 0), api.ErrRange},
		{kit(0, 0, 0, -1001), api.ErrRange},
		{kit(1, 1, 1001, 1001), api.ErrRange},
		{kit(0, 0, 0, 0), api.ErrFlat},
		{kit(0, 0, 5, 5), api.ErrFlat},
		{kit(5, 5, 0, 0), api.ErrFlat},
		{kit(7, 0, -3, 0), api.ErrFlat},
		{kit(1000, -1000, -1000, 1000), api.ErrFlat},
		{kit(6, 4, 9, 6), api.ErrFlat},
		{flat(), api.ErrFlat},
	} {
		far := question{iron: vector(10001, 0), c: choice(100000001, 0), first: choice(0, -100000001), square: -1}
		for _, q := range []question{far, {}, {square: 5000, first: choice(1, 0), second: choice(0, 1)}} {
			for j, e := range failures(t, x.k, q) {
				if e != x.e {
					t.Errorf("kit %d, %v, function %d: %d, want %d", i, q, j, e, x.e)
				}
			}
		}
	}
}

// P6.2 to P6.6: numbers out of range, and orders that are none; each with the errors of Rest, Verify, Best, All and Within.
func TestBadNumbers(t *testing.T) {
	r, one, other, most := api.ErrRange, choice(1, 0), choice(0, 1), 100000000
	fine := func(q question) question {
		if q.first == choice(0, 0) && q.second == choice(0, 0) {
			q.first, q.second = one, other
		}
		return q
	}
	for i, x := range []struct {
		q    question
		want []api.Errno
	}{
		{question{}, []api.Errno{0, 0, 0, 0, 0}},
		{question{iron: vector(10000, -10000)}, []api.Errno{0, api.ErrProof, 0, 0, 0}},
		{question{iron: vector(-10000, 10000)}, []api.Errno{0, api.ErrProof, 0, 0, 0}},
		{question{iron: vector(10001, 0)}, []api.Errno{r, r, r, r, r}},
		{question{iron: vector(-10001, 0)}, []api.Errno{r, r, r, r, r}},
		{question{iron: vector(0, 10001)}, []api.Errno{r, r, r, r, r}},
		{question{iron: vector(0, -10001)}, []api.Errno{r, r, r, r, r}},
		{question{iron: vector(math.MinInt, 0)}, []api.Errno{r, r, r, r, r}},
		{question{iron: vector(0, math.MaxInt)}, []api.Errno{r, r, r, r, r}},
		{question{iron: vector(0, 10001), square: 8001}, []api.Errno{r, r, r, r, r}},
		{question{iron: vector(0, 10001), first: one, second: one}, []api.Errno{r, r, r, r, r}},
		{question{c: choice(most, -most)}, []api.Errno{0, api.ErrProof, 0, 0, 0}},
		{question{c: choice(-most, most)}, []api.Errno{0, api.ErrProof, 0, 0, 0}},
		{question{c: choice(most+1, 0)}, []api.Errno{r, r, 0, 0, 0}},
		{question{c: choice(-most-1, 0)}, []api.Errno{r, r, 0, 0, 0}},
		{question{c: choice(0, most+1)}, []api.Errno{r, r, 0, 0, 0}},
		{question{c: choice(0, -most-1)}, []api.Errno{r, r, 0, 0, 0}},
		{question{c: choice(math.MinInt, 0)}, []api.Errno{r, r, 0, 0, 0}},
		{question{c: choice(0, math.MaxInt)}, []api.Errno{r, r, 0, 0, 0}},
		{question{c: choice(0, most+1), first: one, second: one}, []api.Errno{r, r, 0, 0, 0}},
		{question{first: choice(most+1, 0), second: other}, []api.Errno{0, r, 0, 0, 0}},
		{question{first: choice(1, -most-1), second: other}, []api.Errno{0, r, 0, 0, 0}},
		{question{first: one, second: choice(most+1, 1)}, []api.Errno{0, r, 0, 0, 0}},
		{question{first: one, second: choice(0, -most-1)}, []api.Errno{0, r, 0, 0, 0}},
		{question{first: choice(math.MinInt, 0), second: other}, []api.Errno{0, r, 0, 0, 0}},
		{question{first: one, second: choice(0, math.MaxInt)}, []api.Errno{0, r, 0, 0, 0}},
		{question{first: one, second: choice(most, most)}, []api.Errno{0, api.ErrOrder, 0, 0, 0}},
		{question{first: choice(-most, -most), second: one}, []api.Errno{0, api.ErrOrder, 0, 0, 0}},
		{question{first: one, second: one, c: one}, []api.Errno{0, api.ErrOrder, 0, 0, 0}},
		{question{square: -1}, []api.Errno{0, 0, 0, 0, r}},
		{question{square: math.MinInt}, []api.Errno{0, 0, 0, 0, r}},
		{question{square: 1000000001}, []api.Errno{0, 0, 0, 0, r}},
		{question{square: math.MaxInt}, []api.Errno{0, 0, 0, 0, r}},
		{question{square: 8000}, []api.Errno{0, 0, 0, 0, 0}},
		{question{square: 8001}, []api.Errno{0, 0, 0, 0, api.ErrOver}},
		{question{square: 1000000000}, []api.Errno{0, 0, 0, 0, api.ErrOver}},
	} {
		want := slices.Concat([]api.Errno{0, 0, 0, 0}, x.want)
		if got := failures(t, square(), fine(x.q)); !slices.Equal(got, want) {
			t.Errorf("%d: %v, want %v", i, got, want)
		}
	}
}

// P6.1, P6.3: whether kits are reduced, and the smallest squares of pulls.
func TestReduced(t *testing.T) {
	for i, x := range []struct {
		k        magnet.Kit
		reduced  bool
		shortest int
	}{
		{skew(), false, 2},
		{square(), true, 4},
		{kit(1, 0, 0, 1), true, 1},
		{kit(1, 0, 0, 1000), true, 1},
		{kit(0, 1000, 1, 0), false, 1},
		{kit(1000, 0, 0, 1000), true, 1000000},
		{kit(1000, 1000, 1000, -1000), true, 2000000},
		{kit(-1000, -1000, 1000, -1000), true, 2000000},
		// Twice the product is just the square of A, or one more, or one less.
		{kit(2, 0, 1, 2), true, 4},
		{kit(2, 0, -1, 2), true, 4},
		{kit(4, 2, -1, 7), true, 20},
		{kit(4, 1, 1, 4), true, 17},
		{kit(4, 1, 1, 5), false, 17},
		{kit(4, 1, -1, -5), false, 17},
		{kit(4, 1, 3, -5), true, 17},
		{kit(4, 1, -3, 5), true, 17},
		{kit(4, 0, 3, 5), false, 16},
		{kit(4, 0, -3, 5), false, 16},
		{kit(4, 0, 2, 5), true, 16},
		// A and B have one length, or A is one longer.
		{kit(3, 4, 5, 0), false, 20},
		{kit(3, 4, 4, -3), true, 25},
		{kit(3, 1, 0, -3), false, 9},
		{kit(0, -3, 3, 1), true, 9},
		{kit(2, 0, 1, 1), false, 2},
		{kit(2, 0, 0, 1), false, 1},
		{kit(1000, 999, 999, 998), false, 1},
		{kit(-999, 1000, 998, -999), false, 1},
		{kit(1000, -1, 0, 1), false, 1},
		{kit(12, 5, 7, 3), false, 1},
		{kit(8, 7, 4, 7), false, 16},
		// The second pull is longer than MaxPull after it is reduced.
		{kit(1000, 1000, -400, 1000), false, 1160000},
	} {
		reduced, a := magnet.Reduced(x.k)
		shortest, b := magnet.Shortest(x.k)
		if reduced != x.reduced || a != api.OK || shortest != x.shortest || b != api.OK {
			t.Errorf("%d: Reduced %v %d, Shortest %d %d", i, reduced, a, shortest, b)
		}
		first, second, k := bundlesOf(t, x.k)
		if !trueOrder(x.k, first, second) || size(k.A) != x.shortest {
			t.Errorf("%d: Reduce %v %v, which pull by %v", i, first, second, k)
		}
	}
}

// P6.2: rests, with the greatest numbers too.
func TestRest(t *testing.T) {
	most := 100000000
	for i, x := range []struct {
		k          magnet.Kit
		iron, want magnet.Vector
		c          magnet.Choice
	}{
		{skew(), vector(1, 0), vector(0, -1), choice(3, -1)},
		{skew(), vector(0, 0), vector(0, 0), choice(0, 0)},
		{skew(), vector(5, 5), vector(8, 5), choice(1, 0)},
		{skew(), vector(5, 5), vector(15, 6), choice(0, 1)},
		{skew(), vector(5, 5), vector(0, 0), choice(15, -5)},
		{kit(1, 10, 100, 1000-1), vector(-7, 9), vector(195, 2027), choice(2, 2)},
		{kit(1000, 1000, 1000, 999), vector(10000, 10000), vector(200000010000, 199900010000), choice(most, most)},
		{kit(1000, 1000, -1000, 999), vector(-10000, -10000), vector(-200000010000, -100010000), choice(-most, most)},
	} {
		if got, e := magnet.Rest(x.k, x.iron, x.c); got != x.want || e != api.OK {
			t.Errorf("%d: Rest %v %d, want %v", i, got, e, x.want)
		}
	}
}

// P6.4: best choices in their order, with the rest of the first one.
func TestBest(t *testing.T) {
	for i, x := range []struct {
		k    magnet.Kit
		iron magnet.Vector
		all  []magnet.Choice
		rest magnet.Vector
	}{
		{skew(), vector(5, 5), choices(15, -5), vector(0, 0)},
		{skew(), vector(1, 0), choices(0, 0, 3, -1), vector(1, 0)},
		{skew(), vector(0, 0), choices(0, 0), vector(0, 0)},
		{square(), vector(1, 1), choices(-1, -1, -1, 0, 0, -1, 0, 0), vector(-1, -1)},
		{square(), vector(-1, -1), choices(0, 0, 0, 1, 1, 0, 1, 1), vector(-1, -1)},
		{square(), vector(1, 0), choices(-1, 0, 0, 0), vector(-1, 0)},
		{square(), vector(0, 3), choices(0, -2, 0, -1), vector(0, -1)},
		{square(), vector(10000, -9999), choices(-5000, 4999, -5000, 5000), vector(0, -1)},
		// Four best choices of a kit that is skew: their rests are corners of a rectangle.
		{kit(2, 0, 2, 2), vector(1, 1), choices(-1, 0, 0, -1, 0, 0, 1, -1), vector(-1, 1)},
		{kit(2, 4, 6, 8), vector(5, 6), choices(-2, 0, 0, -1, 1, -1, 3, -2), vector(1, -2)},
		{kit(4, 2, -2, 4), vector(1, 3), choices(-1, -1, -1, 0, 0, -1, 0, 0), vector(-1, -3)},
		// Three of them, around which a circle goes.
		{kit(6, 0, 2, 4), vector(3, 1), choices(-1, 0, 0, -1, 0, 0), vector(-3, 1)},
		{kit(6, 0, 2, 4), vector(-3, -1), choices(0, 0, 0, 1, 1, 0), vector(-3, -1)},
		// One or two of a kit that is skew, and the greatest pulls and irons.
		{kit(8, 0, 2, 4), vector(5, 0), choices(-1, 0), vector(-3, 0)},
		{kit(10, 0, 4, 8), vector(5, 1), choices(-1, 0, 0, 0), vector(-5, 1)},
		{kit(1000, 0, 0, 1000), vector(-500, 500), choices(0, -1, 0, 0, 1, -1, 1, 0), vector(-500, -500)},
		{kit(1000, 1000, 1000, -1000), vector(10000, 10000), choices(-10, 0), vector(0, 0)},
		{kit(1000, 999, 999, 998), vector(10000, -10000), choices(19970000, -19990000), vector(0, 0)},
		{kit(1, 0, 0, 1000), vector(10000, 500), choices(-10000, -1, -10000, 0), vector(0, -500)},
		{kit(0, 1000, 1, 0), vector(10000, 500), choices(-1, -10000, 0, -10000), vector(0, -500)},
		{kit(1000, 1, 1, 0), vector(3, 10000), choices(-10000, 9999997), vector(0, 0)},
		{kit(1000, 1000, -400, 1000), vector(700, 0), choices(-1, 1, 0, 0), vector(-700, 0)},
	} {
		one, rest, a := magnet.Best(x.k, x.iron)
		all, b := magnet.All(x.k, x.iron)
		if one != x.all[0] || rest != x.rest || a != api.OK || !slices.Equal(all, x.all) || b != api.OK {
			t.Errorf("%d: Best %v %v %d, All %v %d, want %v and %v", i, one, rest, a, all, b, x.all, x.rest)
		}
	}
}

// P6.5: bundles that are complete and reduced or not, and choices that are best ones or not.
func TestVerify(t *testing.T) {
	none, long := choice(0, 0), kit(1000, 1000, -400, 1000)
	for i, x := range []struct {
		k             magnet.Kit
		first, second magnet.Choice
		iron          magnet.Vector
		c             magnet.Choice
		e             api.Errno
	}{
		{skew(), choice(-3, 1), choice(4, -1), vector(1, 0), choice(3, -1), api.OK},
		{skew(), choice(-3, 1), choice(4, -1), vector(1, 0), none, api.OK},
		{skew(), choice(-3, 1), choice(4, -1), vector(1, 0), choice(1, 0), api.ErrProof},
		{skew(), choice(-3, 1), choice(4, -1), vector(1, 0), choice(100000000, 100000000), api.ErrProof},
		// Other bundles, and such whose kit is not reduced.
		{skew(), choice(3, -1), choice(-4, 1), vector(1, 0), none, api.OK},
		{skew(), choice(3, -1), choice(4, -1), vector(1, 0), none, api.OK},
		{skew(), choice(-3, 1), choice(7, -2), vector(1, 0), none, api.OK},
		{skew(), choice(4, -1), choice(-3, 1), vector(1, 0), none, api.ErrOrder},
		{skew(), choice(-3, 1), choice(1, 0), vector(1, 0), none, api.ErrOrder},
		{skew(), choice(1, 0), choice(0, 1), vector(1, 0), choice(1, 0), api.ErrOrder},
		// Bundles that are not complete, though their kit can be reduced.
		{square(), choice(1, 0), choice(0, 2), vector(0, 0), none, api.ErrOrder},
		{square(), choice(1, 1), choice(1, -1), vector(0, 0), none, api.ErrOrder},
		{square(), choice(1, 0), choice(1, 0), vector(0, 0), none, api.ErrOrder},
		{square(), none, choice(0, 1), vector(0, 0), none, api.ErrOrder},
		{square(), none, none, vector(0, 0), none, api.ErrOrder},
		// Bundles in each orientation; all best choices are accepted, and no others.
		{square(), choice(1, 0), choice(0, 1), vector(1, 1), choice(-1, 0), api.OK},
		{square(), choice(0, -1), choice(1, 0), vector(1, 1), choice(-1, -1), api.OK},
		{square(), choice(-1, 0), choice(0, 1), vector(1, 1), choice(0, -1), api.OK},
		{square(), choice(0, 1), choice(-1, 0), vector(1, 1), none, api.OK},
		{square(), choice(0, 1), choice(-1, 0), vector(1, 1), choice(1, 0), api.ErrProof},
		{square(), choice(0, 1), choice(-1, 0), vector(1, 1), choice(-1, -2), api.ErrProof},
		// Only the third one of the vectors shows that a choice is not a best one.
		{kit(6, 0, 2, 6), choice(1, 0), choice(0, 1), vector(-3, 3), none, api.ErrProof},
		{kit(6, 0, -2, 6), choice(1, 0), choice(0, 1), vector(3, 3), none, api.ErrProof},
		{kit(6, 0, -2, 6), choice(1, 0), choice(0, 1), vector(-3, 2), none, api.OK},
		// Pulls above MaxPull.
		{long, choice(0, 1), choice(1, -1), vector(700, 0), none, api.OK},
		{long, choice(0, 1), choice(1, -1), vector(700, 0), choice(-1, 1), api.OK},
		{long, choice(0, 1), choice(1, -1), vector(700, 0), choice(-1, 0), api.ErrProof},
		// Complete bundles whose pulls have squares above 64 bits.
		{square(), choice(100000000, 99999999), choice(1, 1), vector(0, 0), none, api.ErrOrder},
		{square(), choice(1, 1), choice(100000000, 99999999), vector(0, 0), none, api.ErrOrder},
		{kit(1000, 0, 0, 1000), choice(100000000, 99999999), choice(99999999, 99999998), vector(0, 0), none, api.ErrOrder},
	} {
		if e := magnet.Verify(x.k, x.first, x.second, x.iron, x.c); e != x.e {
			t.Errorf("%d: Verify %d, want %d", i, e, x.e)
		}
	}
}

// P6.6: how many choices leave little, around smallest squares, and at the greatest square that is allowed.
func TestWithin(t *testing.T) {
	for i, x := range []struct {
		k            magnet.Kit
		iron         magnet.Vector
		square, want int
		e            api.Errno
	}{
		{square(), vector(0, 0), 0, 1, api.OK},
		{square(), vector(0, 0), 3, 1, api.OK},
		{square(), vector(0, 0), 4, 5, api.OK},
		{square(), vector(0, 0), 7, 5, api.OK},
		{square(), vector(0, 0), 8, 9, api.OK},
		{square(), vector(1, 1), 1, 0, api.OK},
		{square(), vector(1, 1), 2, 4, api.OK},
		{square(), vector(1, 1), 9, 4, api.OK},
		{square(), vector(1, 1), 10, 12, api.OK},
		{square(), vector(9999, -9999), 10, 12, api.OK},
		{skew(), vector(1, 0), 0, 0, api.OK},
		{skew(), vector(1, 0), 1, 2, api.OK},
		{skew(), vector(1, 0), 2, 3, api.OK},
		{skew(), vector(0, 0), 6000, 6289, api.OK},
		{skew(), vector(0, 0), 6001, 0, api.ErrOver},
		// B is on the other side of A.
		{kit(10, 1, 3, 0), vector(1, 0), 2, 3, api.OK},
		{kit(10, 1, 3, 0), vector(1, 0), 6001, 0, api.ErrOver},
		{kit(0, 2, 2, 0), vector(1, 1), 10, 12, api.OK},
		{kit(1, 0, 0, 1000), vector(0, 0), 100, 21, api.OK},
		{kit(1, 0, 0, 1000), vector(0, 0), 999999, 1999, api.OK},
		{kit(1, 0, 0, 1000), vector(0, 0), 1000000, 2003, api.OK},
		{kit(1, 0, 0, 1000), vector(0, 500), 250000, 2, api.OK},
		{kit(1, 0, 0, 1000), vector(0, 500), 249999, 0, api.OK},
		{kit(1, 0, 0, 1), vector(10000, -10000), 25, 81, api.OK},
		{kit(1, 0, 0, 1), vector(0, 0), 2000, 6293, api.OK},
		{kit(1, 0, 0, 1), vector(0, 0), 2001, 0, api.ErrOver},
		{kit(1000, 0, 0, 1000), vector(500, 500), 499999, 0, api.OK},
		{kit(1000, 0, 0, 1000), vector(500, 500), 500000, 4, api.OK},
		{kit(1000, 0, 0, 1000), vector(0, 0), 1000000000, 3149, api.OK},
		{kit(1000, 0, 0, 1000), vector(0, 0), 1000000001, 0, api.ErrRange},
		{kit(1000, 0, 0, 500), vector(0, 0), 1000000000, 6293, api.OK},
		{kit(1000, 0, 0, 499), vector(0, 0), 1000000000, 0, api.ErrOver},
	} {
		if got, e := magnet.Within(x.k, x.iron, x.square); got != x.want || e != x.e {
			t.Errorf("%d: Within %d %d, want %d %d", i, got, e, x.want, x.e)
		}
	}
}
