package period_test

import (
	"math"
	"slices"
	"testing"

	"agonic/api"
	"agonic/period"
)

// Terms, Limits: the chapter's limits.
func TestLimits(t *testing.T) {
	if got := list(period.MaxPeriod, period.MaxPassages, period.MaxTime, period.MaxNum, period.MaxCounts); !slices.Equal(got, list(10000, 8, 1000000, 1000000, 500)) {
		t.Errorf("limits %v", got)
	}
}

type badLog struct {
	l period.Log
	e api.Errno
}

// badLogs are logs with errors, in the order in which they are examined.
func badLogs() []badLog {
	nine := spans(0, 0, 2, 2, 4, 4, 6, 6, 8, 8, 10, 10, 12, 12, 14, 14, 16, 16)
	many := func(lo, hi int) period.Log {
		return period.Log{Period: api.Span{Lo: lo, Hi: hi}, Passages: slices.Clone(nine)}
	}
	return []badLog{
		{period.Log{}, api.ErrRange},
		{of(0, 5, 0, 0, 1, 1), api.ErrRange},
		{of(0, 0, 0, 0, 1, 1), api.ErrRange},
		{of(-3, 5, 0, 0, 1, 1), api.ErrRange},
		{of(6, 5, 0, 0, 1, 1), api.ErrRange},
		{of(1, 10001, 0, 0, 1, 1), api.ErrRange},
		{of(10001, 10001, 0, 0, 1, 1), api.ErrRange},
		{of(math.MinInt, math.MaxInt, 0, 0, 1, 1), api.ErrRange},
		{of(math.MaxInt, math.MinInt, 0, 0, 1, 1), api.ErrRange},
		{of(0, 5), api.ErrRange},
		{many(6, 5), api.ErrRange},
		{of(0, 5, 5, 4), api.ErrRange},
		{of(1, 1), api.ErrEmpty},
		{of(1, 1, 0, 0), api.ErrEmpty},
		{of(1, 1, -1, 0), api.ErrEmpty},
		{many(1, 1), api.ErrMany},
		{period.Log{Period: api.Span{Lo: 1, Hi: 1}, Passages: slices.Repeat(spans(5, 4), 9)}, api.ErrMany},
		{of(1, 1, -1, 0, 5, 5), api.ErrRange},
		{of(1, 1, 0, 0, 5, 1000001), api.ErrRange},
		{of(1, 1, 2, 1, 5, 5), api.ErrRange},
		{of(1, 1, 0, 0, 5, 4), api.ErrRange},
		{of(1, 1, math.MinInt, 0, 5, 5), api.ErrRange},
		{of(1, 1, 0, 0, 5, math.MaxInt), api.ErrRange},
		{of(1, 1, 0, math.MaxInt, 5, 5), api.ErrRange},
		{of(1, 1, math.MaxInt, math.MinInt, 5, 5), api.ErrRange},
		{of(1, 1, 5, 6, 2, 1), api.ErrRange},
		{of(1, 1, 5, 6, -2, -1), api.ErrRange},
		{of(1, 1, 2, 3, 3, 4), api.ErrOrder},
		{of(1, 1, 2, 3, 2, 3), api.ErrOrder},
		{of(1, 1, 2, 3, 0, 1), api.ErrOrder},
		{of(1, 1, 2, 9, 3, 4), api.ErrOrder},
		{of(1, 1, 2, 3, 4, 5, 5, 5), api.ErrOrder},
		{of(1, 1, 5, 6, 2, 3, 9, 8), api.ErrOrder},
		{of(1, 1, 5, 6, 9, 8, 2, 3), api.ErrRange},
		{of(1, 1, 5, 6, 7, 1000001, 2, 3), api.ErrRange},
	}
}

// failures returns the errors of all functions of a log, and expects zero values beside them.
func failures(t *testing.T, l period.Log, counts []int, low, high [2]int) []api.Errno {
	t.Helper()
	least, greatest, a := period.Period(l, counts)
	first, second, b := period.Bounds(l, counts)
	c := period.Verify(l, counts, low, high)
	all, d := period.Counts(l)
	total, e := period.Total(l)
	zero := part(0, 0)
	if a != api.OK && (least != zero || greatest != zero) || b != api.OK && (first != [2]int{} || second != [2]int{}) || d != api.OK && len(all) > 0 || e != api.OK && total != (api.Span{}) {
		t.Errorf("%v, an error and %v %v, %v %v, %v, %v", l, least, greatest, first, second, all, total)
	}
	return []api.Errno{period.Check(l), a, b, c, d, e}
}

// P8.1, and the first error of each function of a log, also with other errors behind it.
func TestBadLogs(t *testing.T) {
	for i, x := range badLogs() {
		if e := trueCheck(x.l); e != x.e {
			t.Errorf("log %d: the definition says %d, not %d", i, e, x.e)
		}
		for _, counts := range [][]int{nil, list(1), list(0), list(1, 1, 1)} {
			for j, e := range failures(t, x.l, counts, [2]int{0, 1}, [2]int{1, 0}) {
				if e != x.e {
					t.Errorf("log %d, function %d: %d, want %d", i, j, e, x.e)
				}
			}
		}
	}
}

// P8.1: the greatest and the smallest numbers without an error.
func TestGoodLogs(t *testing.T) {
	eight := of(1, 10000, 0, 0, 1, 1, 2, 2, 3, 3, 4, 4, 5, 5, 6, 6, 1000000, 1000000)
	for i, l := range []period.Log{example(), eight, of(1, 1, 0, 0, 1, 1), of(10000, 10000, 0, 999999, 1000000, 1000000), of(5, 5, 0, 0, 1, 1000000)} {
		if e := period.Check(l); e != api.OK {
			t.Errorf("log %d: %d", i, e)
		}
	}
}

// P8.2, P8.3: the errors of counts and of pairs, in their order.
func TestBadCounts(t *testing.T) {
	right, wrong := [2]int{0, 1}, [2]int{1, 1}
	for i, x := range []struct {
		counts []int
		low    [2]int
		high   [2]int
		want   []api.Errno
	}{
		{nil, right, wrong, errors(api.ErrShape, api.ErrShape, api.ErrShape)},
		{list(4), right, wrong, errors(api.ErrShape, api.ErrShape, api.ErrShape)},
		{list(0), right, right, errors(api.ErrShape, api.ErrShape, api.ErrShape)},
		{list(4, 6, 1), right, right, errors(api.ErrShape, api.ErrShape, api.ErrShape)},
		{list(0, 6), wrong, right, errors(api.ErrRange, api.ErrRange, api.ErrRange)},
		{list(4, 0), right, wrong, errors(api.ErrRange, api.ErrRange, api.ErrRange)},
		{list(4, -6), right, right, errors(api.ErrRange, api.ErrRange, api.ErrRange)},
		{list(1000001, 6), right, right, errors(api.ErrRange, api.ErrRange, api.ErrRange)},
		{list(4, math.MaxInt), right, right, errors(api.ErrRange, api.ErrRange, api.ErrRange)},
		{list(math.MinInt, 6), right, right, errors(api.ErrRange, api.ErrRange, api.ErrRange)},
		{list(4, 6), right, right, errors(api.OK, api.OK, api.ErrProof)},
		{list(4, 5), right, right, errors(api.ErrClash, api.OK, api.ErrProof)},
		{list(1000000, 1000000), right, right, errors(api.ErrClash, api.OK, api.OK)},
		{list(4, 5), wrong, right, errors(api.ErrClash, api.OK, api.ErrOrder)},
		{list(4, 6), right, wrong, errors(api.OK, api.OK, api.ErrOrder)},
	} {
		if got := failures(t, example(), x.counts, x.low, x.high)[1:4]; !slices.Equal(got, x.want) {
			t.Errorf("counts %d: %v, want %v", i, got, x.want)
		}
	}
}

// errors returns errors as a list.
func errors(l ...api.Errno) []api.Errno { return l }

// P8.2: ends that come from pairs, and from the period of the log.
func TestPeriod(t *testing.T) {
	for i, x := range []struct {
		l               period.Log
		counts          []int
		least, greatest api.Ratio
		e               api.Errno
	}{
		{example(), list(4, 6), part(5, 1), part(51, 10), api.OK},
		{example(), list(5, 7), part(25, 6), part(17, 4), api.OK},
		{example(), list(4, 5), part(0, 0), part(0, 0), api.ErrClash},
		{example(), list(5, 6), part(0, 0), part(0, 0), api.ErrClash},
		{example(), list(1, 1), part(0, 0), part(0, 0), api.ErrClash},
		{of(1, 50, 0, 0, 10, 10), list(4), part(5, 2), part(5, 2), api.OK},
		{of(1, 50, 0, 5, 10, 20), list(4), part(5, 4), part(5, 1), api.OK},
		{of(2, 50, 0, 5, 10, 20), list(4), part(2, 1), part(5, 1), api.OK},
		{of(1, 4, 0, 5, 10, 20), list(4), part(5, 4), part(4, 1), api.OK},
		{of(2, 4, 0, 5, 10, 20), list(4), part(2, 1), part(4, 1), api.OK},
		// A single period that is left, at either end; and one more swing.
		{of(5, 6, 0, 5, 10, 20), list(4), part(5, 1), part(5, 1), api.OK},
		{of(5, 6, 0, 5, 10, 20), list(5), part(0, 0), part(0, 0), api.ErrClash},
		{of(1, 1, 0, 5, 10, 20), list(5), part(1, 1), part(1, 1), api.OK},
		{of(1, 1, 0, 5, 10, 20), list(4), part(0, 0), part(0, 0), api.ErrClash},
		// Passages that are not neighbours decide.
		{of(1, 50, 0, 0, 8, 12, 20, 20), list(1, 1), part(10, 1), part(10, 1), api.OK},
		{of(1, 50, 0, 0, 8, 12, 15, 25, 30, 30), list(1, 1, 1), part(10, 1), part(10, 1), api.OK},
		{of(1, 50, 0, 2, 8, 12, 20, 20), list(1, 1), part(9, 1), part(10, 1), api.OK},
		// The greatest numbers.
		{of(1, 10000, 0, 0, 1000000, 1000000), list(1000000), part(1, 1), part(1, 1), api.OK},
		{of(1, 10000, 0, 0, 1000000, 1000000), list(100), part(10000, 1), part(10000, 1), api.OK},
		{of(1, 10000, 0, 0, 1000000, 1000000), list(99), part(0, 0), part(0, 0), api.ErrClash},
		{of(1, 10000, 0, 1, 999999, 1000000), list(999983), part(999998, 999983), part(1000000, 999983), api.OK},
		{of(1, 10000, 0, 1, 999999, 1000000), list(999999), part(1, 1), part(1000000, 999999), api.OK},
		{of(1, 10000, 0, 0, 1, 1, 2, 2, 3, 3, 4, 4, 5, 5, 6, 6, 1000000, 1000000), slices.Repeat(list(1000000), 7), part(0, 0), part(0, 0), api.ErrClash},
	} {
		a, b, e := period.Period(x.l, x.counts)
		if a != x.least || b != x.greatest || e != x.e {
			t.Errorf("%d: Period %v %v %d, want %v %v %d", i, a, b, e, x.least, x.greatest, x.e)
		}
	}
}

// P8.3: pairs that limit most, and of several ones the first.
func TestBounds(t *testing.T) {
	for i, x := range []struct {
		l         period.Log
		counts    []int
		low, high [2]int
	}{
		{example(), list(4, 6), [2]int{0, 2}, [2]int{0, 2}},
		{example(), list(4, 5), [2]int{1, 2}, [2]int{0, 1}},
		{example(), list(4, 7), [2]int{0, 1}, [2]int{1, 2}},
		{of(1, 9, 0, 0, 4, 4, 8, 8), list(2, 2), [2]int{0, 1}, [2]int{0, 1}},
		{of(1, 9, 0, 0, 4, 4, 8, 8, 12, 12), list(1, 1, 1), [2]int{0, 1}, [2]int{0, 1}},
		// The same limit of 1, 2 and 1, 3, behind smaller ones; and written otherwise.
		{of(1, 9, 0, 1, 4, 4, 8, 8, 12, 12), list(1, 1, 1), [2]int{1, 2}, [2]int{0, 1}},
		{of(1, 9, 0, 0, 4, 4, 8, 9, 12, 12), list(1, 1, 1), [2]int{0, 1}, [2]int{0, 1}},
		{of(1, 9, 0, 1, 6, 6, 12, 12, 24, 24), list(2, 3, 6), [2]int{0, 1}, [2]int{1, 2}},
		// Period does not matter.
		{of(7, 7, 0, 0, 4, 4, 9, 9), list(1, 1), [2]int{1, 2}, [2]int{0, 1}},
		{of(1, 1, 0, 5, 10, 20), list(4), [2]int{0, 1}, [2]int{0, 1}},
	} {
		if a, b, e := period.Bounds(x.l, x.counts); a != x.low || b != x.high || e != api.OK {
			t.Errorf("%d: Bounds %v %v %d, want %v %v", i, a, b, e, x.low, x.high)
		}
	}
}

// P8.3: each of the three ways to prove, at and beside its end; what is no pair.
func TestVerify(t *testing.T) {
	first, last, whole := [2]int{0, 1}, [2]int{1, 2}, [2]int{0, 2}
	for i, x := range []struct {
		l         period.Log
		counts    []int
		low, high [2]int
		e         api.Errno
	}{
		{example(), list(4, 5), last, first, api.OK},
		{example(), list(4, 5), first, last, api.ErrProof},
		{example(), list(4, 5), last, last, api.ErrProof},
		{example(), list(4, 6), whole, whole, api.ErrProof},
		{example(), list(4, 7), first, last, api.OK},
		// Limits that are equal prove nothing.
		{of(1, 9, 0, 0, 4, 4, 8, 8), list(1, 1), last, first, api.ErrProof},
		{of(1, 9, 0, 0, 4, 4, 9, 9), list(1, 1), last, first, api.OK},
		// The limit from below and the Hi of the period.
		{of(1, 5, 0, 5, 10, 20), list(1), first, first, api.ErrProof},
		{of(1, 4, 0, 5, 10, 20), list(1), first, first, api.OK},
		{example(), list(3, 9), first, first, api.OK},
		{example(), list(3, 9), whole, whole, api.ErrProof},
		// The limit from above and the Lo of the period.
		{of(5, 6, 0, 5, 10, 20), list(4), first, first, api.ErrProof},
		{of(6, 6, 0, 5, 10, 20), list(4), first, first, api.OK},
		{example(), list(9, 9), first, last, api.OK},
		{example(), list(1000000, 1000000), whole, whole, api.OK},
		{example(), list(4, 5), [2]int{}, first, api.ErrOrder},
		{example(), list(4, 5), last, [2]int{1, 1}, api.ErrOrder},
		{example(), list(4, 5), [2]int{2, 1}, first, api.ErrOrder},
		{example(), list(4, 5), last, [2]int{1, 0}, api.ErrOrder},
		{example(), list(4, 5), [2]int{1, 3}, first, api.ErrOrder},
		{example(), list(4, 5), last, [2]int{-1, 1}, api.ErrOrder},
		{example(), list(4, 5), [2]int{3, 4}, [2]int{3, 4}, api.ErrOrder},
		{example(), list(4, 5), [2]int{math.MinInt, 1}, first, api.ErrOrder},
		{example(), list(4, 5), last, [2]int{0, math.MaxInt}, api.ErrOrder},
	} {
		if e := period.Verify(x.l, x.counts, x.low, x.high); e != x.e {
			t.Errorf("%d: Verify %d, want %d", i, e, x.e)
		}
	}
}

// P8.4: counts in ascending order, their sums, and logs without counts.
func TestCounts(t *testing.T) {
	for i, x := range []struct {
		l     period.Log
		want  [][]int
		total api.Span
		e     api.Errno
	}{
		{example(), [][]int{{4, 6}, {5, 7}}, api.Span{Lo: 10, Hi: 12}, api.OK},
		{of(3, 3, 0, 0, 10, 11), nil, api.Span{}, api.ErrClash},
		{of(3, 3, 0, 0, 10, 12), [][]int{{4}}, api.Span{Lo: 4, Hi: 4}, api.OK},
		{of(1, 3, 0, 0, 4, 4, 6, 6), [][]int{{2, 1}, {4, 2}}, api.Span{Lo: 3, Hi: 6}, api.OK},
		// A time that is too short for one period, and one that is just long enough.
		{of(10, 20, 0, 0, 9, 9), nil, api.Span{}, api.ErrClash},
		{of(10, 20, 0, 0, 10, 10), [][]int{{1}}, api.Span{Lo: 1, Hi: 1}, api.OK},
		{of(10, 20, 0, 5, 6, 10), [][]int{{1}}, api.Span{Lo: 1, Hi: 1}, api.OK},
		// Passages that are wider than the period: the greatest sum is not that of the last counts.
		{of(5, 5, 0, 9, 10, 19, 20, 20), [][]int{{1, 2}, {2, 1}, {2, 2}, {3, 1}}, api.Span{Lo: 3, Hi: 4}, api.OK},
		{of(5, 5, 0, 0, 1, 9, 10, 19, 20, 20), [][]int{{1, 1, 2}, {1, 2, 1}}, api.Span{Lo: 4, Hi: 4}, api.OK},
		{of(2, 3, 0, 0, 9, 9, 11, 12), [][]int{{3, 1}, {4, 1}}, api.Span{Lo: 4, Hi: 5}, api.OK},
		// Only one of the smallest and greatest counts that neighbours allow is possible in the end.
		{of(1, 6, 0, 0, 6, 6, 15, 15, 25, 25), [][]int{{6, 9, 10}}, api.Span{Lo: 25, Hi: 25}, api.OK},
		{of(2, 6, 0, 0, 6, 6, 15, 15, 25, 25), nil, api.Span{}, api.ErrClash},
	} {
		counts, a := period.Counts(x.l)
		total, b := period.Total(x.l)
		if !slices.EqualFunc(counts, x.want, slices.Equal[[]int]) || a != api.OK || total != x.total || b != x.e {
			t.Errorf("%d: Counts %v %d, Total %v %d, want %v %v %d", i, counts, a, total, b, x.want, x.total, x.e)
		}
	}
}

// P8.4: 500 counts are returned, 501 are too many.
func TestManyCounts(t *testing.T) {
	for i, x := range []struct {
		l     period.Log
		count int
		total api.Span
		e     api.Errno
	}{
		{of(1, 1, 0, 0, 501, 1000), 500, api.Span{Lo: 501, Hi: 1000}, api.OK},
		{of(1, 1, 0, 0, 500, 1000), 0, api.Span{}, api.ErrOver},
		{of(1, 10000, 0, 0, 500, 500), 500, api.Span{Lo: 1, Hi: 500}, api.OK},
		{of(1, 10000, 0, 0, 501, 501), 0, api.Span{}, api.ErrOver},
		{of(1, 1, 0, 0, 1, 25, 26, 45, 46, 46), 500, api.Span{Lo: 46, Hi: 46}, api.OK},
		{of(1, 1, 0, 0, 1, 167, 168, 170, 171, 171), 0, api.Span{}, api.ErrOver},
		{of(1, 10000, 0, 9, 1000000, 1000000), 0, api.Span{}, api.ErrOver},
	} {
		counts, a := period.Counts(x.l)
		total, b := period.Total(x.l)
		if len(counts) != x.count || a != x.e || total != x.total || b != x.e {
			t.Errorf("%d: %d Counts, %d, Total %v %d", i, len(counts), a, total, b)
		}
		if !slices.IsSortedFunc(counts, slices.Compare[[]int]) {
			t.Errorf("%d: not in ascending order", i)
		}
	}
}

// P1, P8.4: few counts behind very many that seem possible up to some passage.
func TestDeadEnds(t *testing.T) {
	wide := list(1, 150000, 150001, 300000, 300001, 450000, 450001, 600000, 600001, 750000, 750001, 999000)
	between := func(lo, hi int, ends ...int) period.Log {
		return of(lo, hi, slices.Concat(ends[:2], wide, ends[2:])...)
	}
	narrow := of(1, 10000, 0, 900, 1000, 1000, 900000, 900000, 999983, 999983)
	for i, x := range []struct {
		l     period.Log
		count int
		e     api.Errno
	}{
		{between(6, 6, 0, 0, 1000000, 1000000), 0, api.OK},
		{between(6, 6, 0, 0, 999996, 999996), 0, api.ErrOver},
		{of(6, 6, 0, 150000, 150001, 300000, 300001, 450000, 450001, 600000, 600001, 750000, 750001, 999000, 999995, 999995, 1000000, 1000000), 0, api.OK},
		{of(6, 6, 0, 0, 5, 5, 150001, 300000, 300001, 450000, 450001, 600000, 600001, 750000, 750001, 999000, 999001, 1000000), 0, api.OK},
		{of(1, 10000, 0, 0, 999983, 999983, 1000000, 1000000), 1, api.OK},
		{of(2, 10000, 0, 0, 999983, 999983, 1000000, 1000000), 0, api.OK},
		{of(2, 10000, 0, 1, 4, 5, 500000, 500001, 999983, 999983, 1000000, 1000000), 2, api.OK},
		{narrow, 0, api.ErrOver},
		{of(2, 10000, 0, 900, 1000, 1000, 900000, 900000, 999983, 999983), 0, api.OK},
	} {
		counts, e := period.Counts(x.l)
		if len(counts) != x.count || e != x.e {
			t.Errorf("%d: %d Counts, %d, want %d %d", i, len(counts), e, x.count, x.e)
		}
	}
}

// P8.5: simplest fractions, at either end and between, and errors.
func TestSimplest(t *testing.T) {
	for i, x := range []struct {
		least, greatest, want api.Ratio
		e                     api.Errno
	}{
		{part(1, 3), part(1, 2), part(1, 2), api.OK},
		{part(25, 6), part(17, 4), part(17, 4), api.OK},
		{part(31, 10), part(22, 7), part(22, 7), api.OK},
		{part(7, 3), part(12, 5), part(7, 3), api.OK},
		{part(2, 7), part(3, 10), part(2, 7), api.OK},
		{part(4, 14), part(6, 20), part(2, 7), api.OK},
		{part(314, 100), part(315, 100), part(22, 7), api.OK},
		{part(5, 2), part(100, 3), part(3, 1), api.OK},
		{part(5, 2), part(3, 1), part(3, 1), api.OK},
		{part(3, 1), part(100, 3), part(3, 1), api.OK},
		{part(0, 5), part(9, 1), part(0, 1), api.OK},
		{part(0, 1000000), part(0, 3), part(0, 1), api.OK},
		{part(1, 9), part(9, 1), part(1, 1), api.OK},
		{part(6, 4), part(3, 2), part(3, 2), api.OK},
		{part(1, 1000000), part(1, 1000000), part(1, 1000000), api.OK},
		{part(1, 1000000), part(1, 999999), part(1, 999999), api.OK},
		{part(1, 1000000), part(1, 3), part(1, 3), api.OK},
		{part(1000000, 1), part(1000000, 1), part(1000000, 1), api.OK},
		{part(1, 1000000), part(1000000, 1), part(1, 1), api.OK},
		{part(999998, 999999), part(999999, 1000000), part(999998, 999999), api.OK},
		{part(999999, 1000000), part(1000000, 999999), part(1, 1), api.OK},
		{part(832040, 514229), part(832040, 514229), part(832040, 514229), api.OK},
		{part(832040, 514229), part(514229, 317811), part(514229, 317811), api.OK},
		{part(1, 2), part(1, 3), part(0, 0), api.ErrOrder},
		{part(2, 1), part(0, 7), part(0, 0), api.ErrOrder},
		{part(1000000, 999999), part(999999, 999998), part(999999, 999998), api.OK},
		{part(999999, 999998), part(1000000, 999999), part(0, 0), api.ErrOrder},
		{part(1, 1), part(1, 0), part(0, 0), api.ErrRange},
		{part(2, 1), part(1, 0), part(0, 0), api.ErrRange},
		{part(0, 0), part(1, 1), part(0, 0), api.ErrRange},
		{part(1, -1), part(1, 1), part(0, 0), api.ErrRange},
		{part(-1, 2), part(1, 1), part(0, 0), api.ErrRange},
		{part(1, 1), part(1000001, 1), part(0, 0), api.ErrRange},
		{part(1, 1000001), part(1, 1), part(0, 0), api.ErrRange},
		{part(math.MinInt, 1), part(1, math.MaxInt), part(0, 0), api.ErrRange},
		{part(1, math.MinInt), part(math.MaxInt, 1), part(0, 0), api.ErrRange},
	} {
		if r, e := period.Simplest(x.least, x.greatest); r != x.want || e != x.e {
			t.Errorf("%d: Simplest %v %d, want %v %d", i, r, e, x.want, x.e)
		}
	}
}

// P8.6: paths and their fractions.
func TestPath(t *testing.T) {
	for i, x := range []struct {
		r    api.Ratio
		want []int
	}{
		{part(7, 5), list(1, 2, 1)},
		{part(14, 10), list(1, 2, 1)},
		{part(1, 3), list(0, 2)},
		{part(1, 1), nil},
		{part(1000000, 1000000), nil},
		{part(2, 1), list(1)},
		{part(1, 2), list(0, 1)},
		{part(3, 2), list(1, 1)},
		{part(2, 3), list(0, 1, 1)},
		{part(22, 7), list(3, 6)},
		{part(1000000, 1), list(999999)},
		{part(1, 1000000), list(0, 999999)},
		{part(1000000, 999999), list(1, 999998)},
		{part(999999, 1000000), list(0, 1, 999998)},
		{part(999999, 500000), list(1, 1, 499998)},
		{part(832040, 514229), slices.Repeat(list(1), 28)},
		{part(514229, 832040), append(list(0), slices.Repeat(list(1), 28)...)},
	} {
		path, a := period.Path(x.r)
		if !slices.Equal(path, x.want) || a != api.OK {
			t.Errorf("%d: Path %v %d, want %v", i, path, a, x.want)
		}
		if r, b := period.Follow(x.want); r != reduced(x.r) || b != api.OK {
			t.Errorf("%d: Follow %v %d", i, r, b)
		}
	}
	for i, r := range []api.Ratio{part(0, 1), part(0, 1000000), part(0, 0), part(1, 0), part(-1, 1), part(1, -1), part(-1, -1), part(1000001, 1), part(1, 1000001), part(1000001, 1000001), part(math.MaxInt, math.MaxInt), part(math.MinInt, math.MinInt)} {
		if path, e := period.Path(r); len(path) > 0 || e != api.ErrRange {
			t.Errorf("error %d: Path %v %d", i, path, e)
		}
	}
}

// P8.6: the errors of Follow in their order, and the greatest fractions.
func TestFollow(t *testing.T) {
	ones := slices.Repeat(list(1), 60)
	for i, x := range []struct {
		path []int
		want api.Ratio
		e    api.Errno
	}{
		{nil, part(1, 1), api.OK},
		{list(0, 2), part(1, 3), api.OK},
		{list(999999), part(1000000, 1), api.OK},
		{list(1000000), part(0, 0), api.ErrOver},
		{list(0, 999999), part(1, 1000000), api.OK},
		{list(0, 1000000), part(0, 0), api.ErrOver},
		{list(1, 999998), part(1000000, 999999), api.OK},
		{list(1, 999999), part(0, 0), api.ErrOver},
		{list(999, 999), part(999001, 1000), api.OK},
		{list(1000, 998), part(999001, 999), api.OK},
		{list(1000, 999), part(0, 0), api.ErrOver},
		{list(0, 1000, 998), part(999, 999001), api.OK},
		{list(0, 1000, 999), part(0, 0), api.ErrOver},
		{list(1000000, 1000000, 1000000), part(0, 0), api.ErrOver},
		{slices.Repeat(list(1000000), 40), part(0, 0), api.ErrOver},
		{append(list(0), slices.Repeat(list(1000000), 39)...), part(0, 0), api.ErrOver},
		{ones[:28], part(832040, 514229), api.OK},
		{ones[:29], part(0, 0), api.ErrOver},
		{ones[:40], part(0, 0), api.ErrOver},
		{ones[:41], part(0, 0), api.ErrMany},
		{make([]int, 41), part(0, 0), api.ErrMany},
		{slices.Repeat(list(-1), 41), part(0, 0), api.ErrMany},
		{make([]int, 40), part(0, 0), api.ErrOrder},
		{list(0), part(0, 0), api.ErrOrder},
		{list(1, 0), part(0, 0), api.ErrOrder},
		{list(0, 0), part(0, 0), api.ErrOrder},
		{list(0, 0, 1), part(0, 0), api.ErrOrder},
		{list(1000000, 0), part(0, 0), api.ErrOrder},
		{list(1, 1, 0, 1), part(0, 0), api.ErrOrder},
		{list(0, 1, 1, 1), part(3, 5), api.OK},
		{list(-1), part(0, 0), api.ErrRange},
		{list(0, 1, -1), part(0, 0), api.ErrRange},
		{list(0, 0, 1000001), part(0, 0), api.ErrRange},
		{list(1000000, 1000000, 1000001), part(0, 0), api.ErrRange},
		{list(math.MaxInt), part(0, 0), api.ErrRange},
		{list(1, math.MinInt), part(0, 0), api.ErrRange},
	} {
		if r, e := period.Follow(x.path); r != x.want || e != x.e {
			t.Errorf("%d: Follow %v %d, want %v %d", i, r, e, x.want, x.e)
		}
	}
}
