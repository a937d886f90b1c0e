package pillar_test

import (
	"math"
	"slices"
	"strings"
	"testing"

	"agonic/api"
	"agonic/pillar"
)

// Terms, Limits: the chapter's limits.
func TestLimits(t *testing.T) {
	got := []int{pillar.MaxErrors, pillar.MaxRows, pillar.MaxFactor, pillar.MaxReading, pillar.MaxWeight}
	if want := []int{3, 7, 3, 1000000, 10000}; !slices.Equal(got, want) {
		t.Errorf("limits %v, want %v", got, want)
	}
}

// P1.1: Name.
func TestName(t *testing.T) {
	for _, s := range []string{"a", "z", "m", "ab", "needle", "zzzzzz", "aaaaa"} {
		if !pillar.Name(s) {
			t.Errorf("Name(%q) = false", s)
		}
	}
	for _, s := range []string{"", "needles", strings.Repeat("a", 100), "A", "aB", "a1", "1", "a b", " a", "a ", "a\n", "a\x00", "-", "é", "ä", "aé", "ａ", "\xff", "a_b", "`", "{"} {
		if pillar.Name(s) {
			t.Errorf("Name(%q) = true", s)
		}
	}
	for length := 1; length <= api.MaxName; length++ {
		for at := range length {
			for b := range 256 {
				s := []byte(strings.Repeat("k", length))
				s[at] = byte(b)
				if want := b >= 'a' && b <= 'z'; pillar.Name(string(s)) != want {
					t.Fatalf("Name(%q): want %v", s, want)
				}
			}
		}
	}
}

// badPlans are plans with errors, in the order in which they are examined.
func badPlans() []struct {
	p pillar.Plan
	e api.Errno
} {
	return []struct {
		p pillar.Plan
		e api.Errno
	}{
		{plan(-1, []int{}), api.ErrRange},
		{plan(4, []int{1, 0, 0, 0, 0}), api.ErrRange},
		{plan(-1), api.ErrRange},
		{plan(4, make([][]int, 8)...), api.ErrRange},
		{plan(math.MinInt, nil), api.ErrRange},
		{plan(math.MaxInt, nil), api.ErrRange},
		{plan(0), api.ErrEmpty},
		{plan(3), api.ErrEmpty},
		{pillar.Plan{Errors: 1, Rows: [][]int{}}, api.ErrEmpty},
		{plan(0, slices.Repeat([][]int{{1}}, 8)...), api.ErrMany},
		{plan(0, make([][]int, 8)...), api.ErrMany},
		{plan(0, slices.Repeat([][]int{{9}}, 30)...), api.ErrMany},
		{plan(0, nil), api.ErrShape},
		{plan(0, []int{}), api.ErrShape},
		{plan(0, []int{1, 1}), api.ErrShape},
		{plan(1, []int{1}), api.ErrShape},
		{plan(3, []int{1, 1, 1, 1}, []int{1, 1, 1}), api.ErrShape},
		{plan(1, []int{1, 1, 9}), api.ErrShape},
		{plan(1, []int{9}), api.ErrShape},
		{plan(1, []int{1, 1}, []int{1}, []int{9, 9}), api.ErrShape},
		{plan(1, []int{4, 1}), api.ErrRange},
		{plan(1, []int{1, -4}), api.ErrRange},
		{plan(1, []int{1, 1}, []int{9, 9}, []int{1}), api.ErrRange},
		{plan(0, []int{math.MinInt}), api.ErrRange},
		{plan(0, []int{math.MaxInt}), api.ErrRange},
	}
}

// P1.1: Check, and the error of Check in every other function (P1.2 to P1.5), with zero values (R2).
func TestCheck(t *testing.T) {
	for _, p := range []pillar.Plan{planP, planQ, planR, plan(0, []int{0}), plan(0, []int{3}), plan(0, []int{-3}), plan(3, []int{-3, 3, -3, 3}), plan(3, slices.Repeat([][]int{{1, 0, 0, 0}}, 7)...)} {
		if e := pillar.Check(p); e != api.OK {
			t.Errorf("Check(%v) = %d", p, e)
		}
	}
	readings, wrong := make([]api.Span, 9), spans(2, 1)
	for _, x := range badPlans() {
		if e := pillar.Check(x.p); e != x.e {
			t.Errorf("Check(%v) = %d, want %d", x.p, e, x.e)
		}
		for _, readings := range [][]api.Span{nil, readings, wrong} {
			for name, e := range failures(t, x.p, readings) {
				if e != x.e {
					t.Errorf("%s of %v: %d, want %d", name, x.p, e, x.e)
				}
			}
		}
	}
}

// failures returns the errors of all functions by their names, and expects zero values with each of them.
func failures(t *testing.T, p pillar.Plan, readings []api.Span) map[string]api.Errno {
	t.Helper()
	out := map[string]api.Errno{}
	w, e := pillar.Weigh(p)
	out["Weigh"] = e
	hidden, e := pillar.Hidden(p)
	out["Hidden"] = e
	out["Hides"] = pillar.Hides(p, nil)
	a, b, e := pillar.Bound(p, readings, pillar.Weights{})
	out["Bound"] = e
	c, d, e := pillar.Value(p, readings)
	out["Value"] = e
	low, high, e := pillar.Ends(p, readings)
	out["Ends"] = e
	clash, e := pillar.Clash(p, readings)
	out["Clash"] = e
	out["Verify"] = pillar.Verify(p, readings, nil)
	none := api.Ratio{}
	if a != none || b != none || c != none || d != none {
		t.Errorf("%v: %v %v %v %v with an error", p, a, b, c, d)
	}
	if len(hidden)+len(clash)+len(w.Of)+len(low.Of)+len(high.Of)+w.Under+low.Under+high.Under != 0 {
		t.Errorf("%v: %v %v %v %v %v with an error", p, hidden, clash, w, low, high)
	}
	return out
}

// P1.2: the examples, and plans with one combination only.
func TestWeigh(t *testing.T) {
	for i, x := range []struct {
		p    pillar.Plan
		want pillar.Weights
	}{
		{planP, pillar.Weights{Under: 2, Of: []int{1, 1}}},
		{plan(0, []int{3}), pillar.Weights{Under: 3, Of: []int{1}}},
		{plan(0, []int{-3}), pillar.Weights{Under: 3, Of: []int{-1}}},
		{plan(1, []int{-2, 0}), pillar.Weights{Under: 2, Of: []int{-1}}},
		{plan(1, []int{2, 2}, []int{2, -2}), pillar.Weights{Under: 4, Of: []int{1, 1}}},
		{plan(1, []int{0, 1}, []int{2, 3}), pillar.Weights{Under: 2, Of: []int{-3, 1}}},
		{plan(1, []int{3, 2}, []int{0, 0}, []int{0, 3}), pillar.Weights{}},
		{plan(3, []int{0, 0, 0, 3}, []int{0, 0, 3, 2}, []int{0, 3, 2, 2}, []int{3, 2, 2, 2}), pillar.Weights{Under: 81, Of: []int{-2, -6, -18, 27}}},
		{plan(3, []int{1, 1, 1, 1}, []int{1, -1, -1, -1}), pillar.Weights{Under: 2, Of: []int{1, 1}}},
	} {
		w, e := pillar.Weigh(x.p)
		if e != api.OK || !isCombination(x.p, w) {
			t.Errorf("Weigh %d: %v %d", i, w, e)
		}
		if x.want.Under != 0 && (w.Under != x.want.Under || !slices.Equal(w.Of, x.want.Of)) {
			t.Errorf("Weigh %d: %v, want %v", i, w, x.want)
		}
		if hidden, e := pillar.Hidden(x.p); e != api.ErrNone || len(hidden) != 0 {
			t.Errorf("Hidden %d: %v %d", i, hidden, e)
		}
	}
	for i, p := range []pillar.Plan{planQ, plan(0, []int{0}), plan(0, []int{0}, []int{0}), plan(1, []int{1, 1}), plan(1, []int{0, 1}), plan(2, []int{1, 1, 1}, []int{1, -1, 1}), plan(3, []int{1, 1, 0, 0}, []int{1, 0, 1, 0}, []int{1, 0, 0, 1}), plan(3, []int{3, 2, 1, 3}, []int{2, 3, 3, 1}, []int{3, -1, 2, 2}), plan(3, []int{0, 0, 0, 0})} {
		if w, e := pillar.Weigh(p); e != api.ErrLost || w.Under != 0 || len(w.Of) != 0 {
			t.Errorf("Weigh of lost %d: %v %d", i, w, e)
		}
		hidden, e := pillar.Hidden(p)
		if e != api.OK || !isHidden(p, hidden) || pillar.Hides(p, hidden) != api.OK {
			t.Errorf("Hidden %d: %v %d", i, hidden, e)
		}
	}
}

// P1.2: Hides, with its errors in their order (R1).
func TestHides(t *testing.T) {
	flat := plan(2, []int{0, 1, 1})
	for i, x := range []struct {
		p      pillar.Plan
		hidden []int
		e      api.Errno
	}{
		{planQ, []int{1, -1}, api.OK},
		{planQ, []int{-6, 6}, api.OK},
		{planQ, []int{10000, -10000}, api.OK},
		{planQ, []int{-10000, 10000}, api.OK},
		{flat, []int{1, 0, 0}, api.OK},
		{flat, []int{-7, 5, -5}, api.OK},
		{plan(0, []int{0}), []int{1}, api.OK},
		{planQ, nil, api.ErrShape},
		{planQ, []int{10001}, api.ErrShape},
		{planQ, []int{1, -1, 0}, api.ErrShape},
		{planQ, []int{10001, -10001}, api.ErrRange},
		{planQ, []int{-10001, 10001}, api.ErrRange},
		{planQ, []int{1, 10001}, api.ErrRange},
		{planQ, []int{0, -10001}, api.ErrRange},
		{planQ, []int{math.MinInt, math.MinInt}, api.ErrRange},
		{planQ, []int{math.MaxInt, math.MinInt + 1}, api.ErrRange},
		{planQ, []int{1, 1}, api.ErrProof},
		{planQ, []int{0, 0}, api.ErrProof},
		{flat, []int{0, 1, -1}, api.ErrProof},
		{plan(0, []int{0}), []int{0}, api.ErrProof},
		{plan(1, []int{1, 1}, []int{1, -1}), []int{1, -1}, api.ErrProof},
		{plan(1, []int{1, -1}, []int{1, 1}), []int{1, -1}, api.ErrProof},
		{planP, []int{1, 0}, api.ErrProof},
	} {
		if e := pillar.Hides(x.p, x.hidden); e != x.e {
			t.Errorf("Hides %d: %d, want %d", i, e, x.e)
		}
	}
}

// P1.3: Bound, with its errors in their order (R1).
func TestBound(t *testing.T) {
	good := spans(10, 12, 4, 4, 15, 15)
	most := spans(slices.Repeat([]int{-1000000, 1000000}, 7)...)
	seven := plan(0, slices.Repeat([][]int{{1}}, 7)...)
	weights := func(under int, of ...int) pillar.Weights { return pillar.Weights{Under: under, Of: of} }
	for i, x := range []struct {
		p        pillar.Plan
		readings []api.Span
		w        pillar.Weights
		lo, hi   api.Ratio
		e        api.Errno
	}{
		{planR, good, weights(1, 2, 0, -1), ratio(5, 1), ratio(9, 1), api.OK},
		{planR, good, weights(2, 1, 1, 0), ratio(7, 1), ratio(8, 1), api.OK},
		{planR, good, weights(3, 0, 2, 1), ratio(23, 3), ratio(23, 3), api.OK},
		{planR, good, weights(6, 0, 4, 2), ratio(23, 3), ratio(23, 3), api.OK},
		{planR, spans(-12, -9, -4, -4, 0, 0), weights(4, 2, 2, 0), ratio(-8, 1), ratio(-13, 2), api.OK},
		{planP, spans(-1, 1, 0, 0), weights(2, 1, 1), ratio(-1, 2), ratio(1, 2), api.OK},
		{planP, spans(0, 0, 0, 6), weights(2, 1, 1), ratio(0, 1), ratio(3, 1), api.OK},
		{seven, most, weights(1, 1, 10000, -10000, 10000, -10000, 10000, -10000), ratio(-60001000000, 1), ratio(60001000000, 1), api.OK},
		{seven, most, weights(10000, 10000, 10000, -10000, 0, 0, 0, 0), ratio(-3000000, 1), ratio(3000000, 1), api.OK},

		{planR, nil, weights(0), ratio(0, 0), ratio(0, 0), api.ErrShape},
		{planR, spans(2, 1, 0, 0), weights(0), ratio(0, 0), ratio(0, 0), api.ErrShape},
		{planR, spans(0, 0, 0, 0, 0, 0, 2, 1), weights(1, 2, 0, -1), ratio(0, 0), ratio(0, 0), api.ErrShape},
		{planR, spans(0, 0, 2, 1, 0, 0), weights(1, 2), ratio(0, 0), ratio(0, 0), api.ErrRange},
		{planR, spans(0, 0, 0, 0, -1000001, 0), weights(1, 2, 0, -1), ratio(0, 0), ratio(0, 0), api.ErrRange},
		{planR, spans(0, 1000001, 0, 0, 0, 0), weights(1, 2, 0, -1), ratio(0, 0), ratio(0, 0), api.ErrRange},
		{planR, spans(math.MinInt, math.MaxInt, 0, 0, 0, 0), weights(1, 2, 0, -1), ratio(0, 0), ratio(0, 0), api.ErrRange},
		{planR, spans(math.MaxInt, math.MinInt, 0, 0, 0, 0), weights(1, 2, 0, -1), ratio(0, 0), ratio(0, 0), api.ErrRange},
		{planR, good, weights(0, 2, 0), ratio(0, 0), ratio(0, 0), api.ErrShape},
		{planR, good, weights(1, 2, 0, 10001, 0), ratio(0, 0), ratio(0, 0), api.ErrShape},
		{planR, good, weights(1), ratio(0, 0), ratio(0, 0), api.ErrShape},
		{planR, good, weights(0, 1, 1, 1), ratio(0, 0), ratio(0, 0), api.ErrRange},
		{planR, good, weights(0, 0, 0, 0), ratio(0, 0), ratio(0, 0), api.ErrRange},
		{planR, good, weights(-1, -2, 0, 1), ratio(0, 0), ratio(0, 0), api.ErrRange},
		{planR, good, weights(10001, 0, 0, 0), ratio(0, 0), ratio(0, 0), api.ErrRange},
		{planR, good, weights(math.MinInt, 0, 0, 0), ratio(0, 0), ratio(0, 0), api.ErrRange},
		{planR, good, weights(1, 10001, 0, 0), ratio(0, 0), ratio(0, 0), api.ErrRange},
		{planR, good, weights(1, 0, 0, -10001), ratio(0, 0), ratio(0, 0), api.ErrRange},
		{planR, good, weights(1, math.MinInt, 0, math.MaxInt), ratio(0, 0), ratio(0, 0), api.ErrRange},
		{planR, good, weights(1, 1, 1, 0), ratio(0, 0), ratio(0, 0), api.ErrProof},
		{planR, good, weights(1, 1, 0, 0), ratio(0, 0), ratio(0, 0), api.ErrProof},
		{planR, good, weights(1, 3, -1, -2), ratio(0, 0), ratio(0, 0), api.ErrProof},
		{plan(2, []int{1, 0, 0}, []int{0, 0, 1}), spans(0, 0, 0, 0), weights(1, 1, 1), ratio(0, 0), ratio(0, 0), api.ErrProof},
	} {
		lo, hi, e := pillar.Bound(x.p, x.readings, x.w)
		if lo != x.lo || hi != x.hi || e != x.e {
			t.Errorf("Bound %d: %v %v %d, want %v %v %d", i, lo, hi, e, x.lo, x.hi, x.e)
		}
	}
}

// P1.4: Value and Ends, with their errors in their order (R1, R2).
func TestValue(t *testing.T) {
	for i, x := range []struct {
		p        pillar.Plan
		readings []api.Span
		lo, hi   api.Ratio
		e        api.Errno
	}{
		{planP, spans(10, 12, 4, 4), ratio(7, 1), ratio(8, 1), api.OK},
		{planP, spans(-5, -4, 0, 0), ratio(-5, 2), ratio(-2, 1), api.OK},
		{planP, spans(-1000000, 1000000, -1000000, 1000000), ratio(-1000000, 1), ratio(1000000, 1), api.OK},
		{planR, spans(10, 12, 4, 4, 15, 15), ratio(23, 3), ratio(23, 3), api.OK},
		{planR, spans(10, 12, 4, 6, 13, 16), ratio(7, 1), ratio(9, 1), api.OK},
		{plan(0, []int{1}, []int{2}, []int{-1}), spans(3, 9, 7, 20, -8, -2), ratio(7, 2), ratio(8, 1), api.OK},
		{plan(0, []int{0}, []int{-2}), spans(-1, 0, 0, 3), ratio(-3, 2), ratio(0, 1), api.OK},
		{plan(0, []int{1}, []int{1}), spans(1, 2, 2, 3), ratio(2, 1), ratio(2, 1), api.OK},
		{plan(1, []int{0, 1}, []int{2, 3}), spans(5, 5, 7, 8), ratio(-4, 1), ratio(-7, 2), api.OK},
		{planR, spans(10, 11, 4, 4, 15, 15), ratio(0, 0), ratio(0, 0), api.ErrClash},
		{planQ, spans(0, 1, 5, 5), ratio(0, 0), ratio(0, 0), api.ErrClash},
		{planQ, spans(0, 3, 5, 5), ratio(0, 0), ratio(0, 0), api.ErrLost},
		{plan(0, []int{1}, []int{1}), spans(1, 2, 3, 4), ratio(0, 0), ratio(0, 0), api.ErrClash},
		{plan(0, []int{0}), spans(1, 2), ratio(0, 0), ratio(0, 0), api.ErrClash},
		{plan(0, []int{0}), spans(-2, -1), ratio(0, 0), ratio(0, 0), api.ErrClash},
		{plan(0, []int{0}), spans(-2, 0), ratio(0, 0), ratio(0, 0), api.ErrLost},
		{planQ, nil, ratio(0, 0), ratio(0, 0), api.ErrShape},
		{planQ, spans(2, 1), ratio(0, 0), ratio(0, 0), api.ErrShape},
		{planQ, spans(0, 1, 5, 4), ratio(0, 0), ratio(0, 0), api.ErrRange},
		{planQ, spans(0, 1, 5, 1000001), ratio(0, 0), ratio(0, 0), api.ErrRange},
		{planQ, spans(-1000001, 1, 5, 5), ratio(0, 0), ratio(0, 0), api.ErrRange},
		{planP, spans(math.MinInt, math.MinInt, 0, 0), ratio(0, 0), ratio(0, 0), api.ErrRange},
	} {
		checkValue(t, x.p, x.readings, x.lo, x.hi, x.e)
		if x.e == api.ErrShape || x.e == api.ErrRange {
			if clash, e := pillar.Clash(x.p, x.readings); e != x.e || len(clash) != 0 {
				t.Errorf("Clash %d: %v %d, want %d", i, clash, e, x.e)
			}
			if e := pillar.Verify(x.p, x.readings, []int{20000}); e != x.e {
				t.Errorf("Verify %d: %d, want %d", i, e, x.e)
			}
		}
	}
}

// checkValue checks that Value returns what is expected, and that Ends proves it.
func checkValue(t *testing.T, p pillar.Plan, readings []api.Span, lo, hi api.Ratio, want api.Errno) {
	t.Helper()
	a, b, e := pillar.Value(p, readings)
	if a != lo || b != hi || e != want {
		t.Errorf("Value(%v, %v) = %v %v %d, want %v %v %d", p, readings, a, b, e, lo, hi, want)
	}
	low, high, e := pillar.Ends(p, readings)
	if e != want {
		t.Errorf("Ends(%v, %v): %d, want %d", p, readings, e, want)
	}
	if e != api.OK {
		if low.Under+high.Under+len(low.Of)+len(high.Of) != 0 {
			t.Errorf("Ends(%v, %v) = %v %v %d", p, readings, low, high, e)
		}
		return
	}
	if !isCombination(p, low) || !isCombination(p, high) {
		t.Fatalf("Ends(%v, %v) = %v %v: no combinations", p, readings, low, high)
	}
	least, _ := reachOf(low.Of, readings)
	_, greatest := reachOf(high.Of, readings)
	if reduced(least, low.Under) != lo || reduced(greatest, high.Under) != hi {
		t.Errorf("Ends(%v, %v) = %v %v: not %v to %v", p, readings, low, high, lo, hi)
	}
	a, _, e = pillar.Bound(p, readings, low)
	_, b, f := pillar.Bound(p, readings, high)
	if a != lo || b != hi || e != api.OK || f != api.OK {
		t.Errorf("Bound of Ends(%v, %v): %v %d, %v %d", p, readings, a, e, b, f)
	}
}

// P1.5: Clash and Verify, with their errors in their order (R1).
func TestClash(t *testing.T) {
	bad, good := spans(10, 11, 4, 4, 15, 15), spans(10, 12, 4, 4, 15, 15)
	edge := plan(0, []int{1}, []int{1})
	for i, x := range []struct {
		p        pillar.Plan
		readings []api.Span
		clash    []int
		e        api.Errno
	}{
		{planR, bad, []int{3, -1, -2}, api.OK},
		{planR, bad, []int{-3, 1, 2}, api.OK},
		{planR, bad, []int{9999, -3333, -6666}, api.OK},
		{edge, spans(0, 1, 2, 3), []int{10000, -10000}, api.OK},
		{edge, spans(0, 1, 2, 3), []int{-10000, 10000}, api.OK},
		{plan(0, []int{0}), spans(1, 1), []int{1}, api.OK},
		{plan(0, []int{0}), spans(-1, -1), []int{1}, api.OK},
		{planR, bad, nil, api.ErrShape},
		{planR, bad, []int{10001, 0}, api.ErrShape},
		{planR, bad, []int{3, -1, -2, 0}, api.ErrShape},
		{planR, bad, []int{30000, -10000, -20000}, api.ErrRange},
		{planR, bad, []int{0, 0, 10001}, api.ErrRange},
		{planR, bad, []int{-10001, 0, 0}, api.ErrRange},
		{planR, bad, []int{math.MinInt, 0, 0}, api.ErrRange},
		{planR, bad, []int{0, math.MaxInt, 1}, api.ErrRange},
		{planR, bad, []int{0, 0, 0}, api.ErrProof},
		{planR, bad, []int{3, -1, -1}, api.ErrProof},
		{planR, bad, []int{1, 1, 0}, api.ErrProof},
		{planR, bad, []int{2, -1, -1}, api.ErrProof},
		{planR, good, []int{3, -1, -2}, api.ErrProof},
		{edge, spans(0, 1, 1, 3), []int{1, -1}, api.ErrProof},
		{edge, spans(0, 1, 1, 3), []int{-1, 1}, api.ErrProof},
		{edge, spans(0, 5, 1, 3), []int{-1, 1}, api.ErrProof},
	} {
		if e := pillar.Verify(x.p, x.readings, x.clash); e != x.e {
			t.Errorf("Verify %d: %d, want %d", i, e, x.e)
		}
	}
	for i, x := range []struct {
		p        pillar.Plan
		readings []api.Span
		e        api.Errno
	}{
		{planR, bad, api.OK},
		{planR, good, api.ErrNone},
		{planP, spans(-1000000, -1000000, 1000000, 1000000), api.ErrNone},
		{edge, spans(0, 1, 1, 3), api.ErrNone},
		{edge, spans(1, 3, 0, 1), api.ErrNone},
		{edge, spans(0, 1, 2, 3), api.OK},
		{edge, spans(-1000000, -1000000, 1000000, 1000000), api.OK},
		{planQ, spans(0, 1, 5, 5), api.OK},
		{plan(0, []int{0}), spans(1, 1), api.OK},
		{plan(0, []int{0}), spans(0, 1), api.ErrNone},
		{plan(0, []int{3}, []int{0}, []int{2}), spans(9, 9, 0, 0, 7, 7), api.OK},
	} {
		clash, e := pillar.Clash(x.p, x.readings)
		if e != x.e || e != api.OK && len(clash) != 0 || e == api.OK && !isClash(x.p, x.readings, clash) {
			t.Errorf("Clash %d: %v %d, want %d", i, clash, e, x.e)
		}
	}
}
