package rank_test

import (
	"math"
	"slices"
	"testing"

	"agonic/api"
	"agonic/rank"
)

// Types, Limits: the chapter's limits.
func TestLimits(t *testing.T) {
	if got := list(rank.MaxDays, rank.MaxRange, rank.MaxOrders); !slices.Equal(got, list(30, 100000, 12)) {
		t.Errorf("limits %v", got)
	}
}

// question is arguments of all functions.
type question struct {
	m                            []api.Span
	order                        []int
	p, q, k, number, day, at, to int
}

// ask returns a question about a month that has no other error.
func ask(m []api.Span) question {
	order, e := rank.First(m)
	if e != api.OK {
		order = list(0)
	}
	return question{m: m, order: order, k: 1, at: 1, to: 1}
}

// P12.1, and the first error of each function, also if there are others.
func TestBadMonths(t *testing.T) {
	for i, x := range []struct {
		m []api.Span
		e api.Errno
	}{
		{nil, api.ErrEmpty},
		{month(), api.ErrEmpty},
		{row(31), api.ErrMany},
		{same(1000), api.ErrMany},
		{slices.Repeat(month(2, 1), 31), api.ErrMany},
		{slices.Repeat(month(-1, -1), 31), api.ErrMany},
		{month(2, 1), api.ErrRange},
		{month(-1, 1), api.ErrRange},
		{month(-2, -1), api.ErrRange},
		{month(0, 100001), api.ErrRange},
		{month(100001, 100001), api.ErrRange},
		{month(1, 2, 3, 4, 1, 0), api.ErrRange},
		{month(1, 2, 3, 4, -1, 0), api.ErrRange},
		{month(1, 2, 100000, 100001, 5, 6), api.ErrRange},
		{month(math.MinInt, 1), api.ErrRange},
		{month(math.MinInt, math.MaxInt), api.ErrRange},
		{month(0, math.MaxInt), api.ErrRange},
		{month(math.MaxInt, 0), api.ErrRange},
		{append(row(29), api.Span{Lo: 7, Hi: 6}), api.ErrRange},
	} {
		wrong := question{m: x.m, order: list(9, 9), p: -1, q: 99, k: -1, number: -1, day: -1, at: -1, to: -1}
		for _, q := range []question{ask(x.m), wrong} {
			for j, e := range q.errors(t) {
				if e != x.e {
					t.Errorf("month %d, function %d: %d, want %d", i, j, e, x.e)
				}
			}
		}
	}
}

// P12.1: months without an error, at the ends of what is stated. Nothing is wrong with their
// first orders; a day that is alone comes before no other one.
func TestGoodMonths(t *testing.T) {
	for _, m := range [][]api.Span{month(0, 0), month(0, 100000), month(100000, 100000), example(), row(12), same(12), row(30), same(30), wide(30)} {
		want := make([]api.Errno, 13)
		want[2], want[3] = api.ErrNone, api.ErrProof
		if len(m) == 1 {
			want[12] = api.ErrNone
		}
		if len(m) > 12 {
			copy(want[7:], slices.Repeat([]api.Errno{api.ErrOver}, 6))
		}
		if got := ask(m).errors(t); !slices.Equal(got, want) {
			t.Errorf("%v: %v, want %v", m, got, want)
		}
	}
}

// P12.5 to P12.7: more days than orders are counted for come before other errors.
func TestTooManyToCount(t *testing.T) {
	for _, m := range [][]api.Span{row(13), same(13), row(30)} {
		wrong := question{m: m, order: list(9, 9), p: -1, q: 99, k: -1, number: -1, day: -1, at: -1, to: -1}
		for _, q := range []question{ask(m), wrong} {
			for j, e := range q.errors(t)[7:] {
				if e != api.ErrOver {
					t.Errorf("%d days, function %d: %d", len(m), j+7, e)
				}
			}
		}
	}
}

// P12.1, P12.2: orders with errors, with faults, and such that are possible.
func TestOrders(t *testing.T) {
	ties := month(1, 5, 5, 9)
	for i, x := range []struct {
		m     []api.Span
		order []int
		e     api.Errno
		p, q  int
	}{
		{example(), list(0, 1, 2, 3), api.OK, 0, 0},
		{example(), list(1, 0, 2, 3), api.OK, 0, 0},
		{example(), list(0, 2, 1, 3), api.OK, 0, 0},
		{example(), list(2, 0, 1, 3), api.ErrClash, 0, 1},
		{example(), list(3, 2, 0, 1), api.ErrClash, 0, 1},
		{example(), list(2, 1, 0, 3), api.ErrClash, 0, 2},
		{example(), list(1, 2, 0, 3), api.ErrClash, 1, 2},
		{example(), list(0, 1, 3, 2), api.ErrClash, 2, 3},
		{example(), list(0, 3, 1, 2), api.ErrClash, 1, 2},
		{ties, list(1, 0), api.OK, 0, 0},
		{month(1, 4, 5, 9), list(1, 0), api.ErrClash, 0, 1},
		{month(7, 7), list(0), api.OK, 0, 0},
		{same(30), backwards(upTo(30)), api.OK, 0, 0},
		{row(30), upTo(30), api.OK, 0, 0},
		{row(30), backwards(upTo(30)), api.ErrClash, 0, 1},
		{row(30), append(upTo(28), 29, 28), api.ErrClash, 28, 29},
		// The days that cannot change places are not next to each other.
		{month(0, 100000, 3, 3, 2, 2), list(1, 0, 2), api.ErrClash, 0, 2},
		{month(3, 5, 1, 3, 0, 9, 2, 2), list(0, 2, 1, 3), api.ErrClash, 0, 3},
		{month(4, 5, 5, 9, 1, 9, 4, 4), list(1, 0, 2, 3), api.ErrClash, 0, 3},
		{example(), list(), api.ErrShape, 0, 0},
		{example(), nil, api.ErrShape, 0, 0},
		{example(), list(0, 1, 2), api.ErrShape, 0, 0},
		{example(), list(0, 1, 2, 3, 4), api.ErrShape, 0, 0},
		{example(), list(9, 9, 9), api.ErrShape, 0, 0},
		{example(), list(0, 1, 2, 4), api.ErrNone, 0, 0},
		{example(), list(0, 1, 2, -1), api.ErrNone, 0, 0},
		{example(), list(math.MinInt, 1, 2, 3), api.ErrNone, 0, 0},
		{example(), list(math.MaxInt, 1, 2, 3), api.ErrNone, 0, 0},
		{example(), list(32, 1, 2, 3), api.ErrNone, 0, 0},
		{example(), list(0, 1, 0, 3), api.ErrTwice, 0, 0},
		{example(), list(0, 1, 0, 4), api.ErrTwice, 0, 0},
		{example(), list(0, 4, 0, 1), api.ErrNone, 0, 0},
		{example(), list(-1, 1, 1, 4), api.ErrNone, 0, 0},
		{example(), list(3, 0, 0, 1), api.ErrTwice, 0, 0},
		{example(), list(3, 3, 3, 3), api.ErrTwice, 0, 0},
	} {
		e := rank.Possible(x.m, x.order)
		p, q, f := rank.Fault(x.m, x.order)
		want := x.e
		switch x.e {
		case api.OK:
			want = api.ErrNone
		case api.ErrClash:
			want = api.OK
		}
		if e != x.e || p != x.p || q != x.q || f != want {
			t.Errorf("%d: Possible %d, Fault %d, %d %d, want %d, %d, %d %d", i, e, p, q, f, x.e, x.p, x.q, want)
		}
		if g := rank.Verify(x.m, x.order, p, q); x.e == api.ErrClash && g != api.OK || x.e == api.OK && g != api.ErrProof {
			t.Errorf("%d: Verify %d", i, g)
		}
	}
}

// P12.2: pairs that are no indices, pairs that are no fault, and faults that are not the first.
func TestVerify(t *testing.T) {
	for i, x := range []struct {
		order []int
		p, q  int
		e     api.Errno
	}{
		{list(2, 0, 1, 3), 0, 1, api.OK},
		{list(2, 0, 1, 3), 1, 0, api.ErrProof},
		{list(2, 0, 1, 3), 0, 0, api.ErrProof},
		{list(2, 0, 1, 3), 0, 2, api.ErrProof},
		{list(2, 0, 1, 3), 0, 3, api.ErrProof},
		{list(3, 2, 0, 1), 0, 1, api.OK},
		{list(3, 2, 0, 1), 0, 2, api.OK},
		{list(3, 2, 0, 1), 0, 3, api.OK},
		{list(3, 2, 0, 1), 1, 2, api.OK},
		{list(3, 2, 0, 1), 1, 3, api.ErrProof},
		{list(3, 2, 0, 1), 2, 1, api.ErrProof},
		{list(0, 1, 2, 3), 0, 3, api.ErrProof},
		{list(0, 1, 2, 3), 3, 0, api.ErrProof},
		{list(3, 2, 0, 1), 0, 4, api.ErrNone},
		{list(3, 2, 0, 1), 4, 0, api.ErrNone},
		{list(3, 2, 0, 1), -1, 1, api.ErrNone},
		{list(3, 2, 0, 1), 1, -1, api.ErrNone},
		{list(3, 2, 0, 1), math.MinInt, math.MaxInt, api.ErrNone},
		{list(3, 2, 0), 9, 9, api.ErrShape},
		{list(3, 2, 0, 3), 9, 9, api.ErrTwice},
		{list(3, 2, 0, 4), 0, 1, api.ErrNone},
	} {
		if e := rank.Verify(example(), x.order, x.p, x.q); e != x.e {
			t.Errorf("%d: Verify %d, want %d", i, e, x.e)
		}
	}
}

// P12.3: first orders and ranks; in a month whose spans only touch, days can change places.
func TestFirst(t *testing.T) {
	for i, x := range []struct {
		m     []api.Span
		first []int
		ranks []api.Span
	}{
		{example(), list(0, 1, 2, 3), month(1, 2, 1, 3, 2, 3, 4, 4)},
		{month(4, 4), list(0), month(1, 1)},
		{same(3), list(0, 1, 2), month(1, 3, 1, 3, 1, 3)},
		{row(3), list(0, 1, 2), month(1, 1, 2, 2, 3, 3)},
		{month(2, 2, 1, 1, 0, 0), list(2, 1, 0), month(3, 3, 2, 2, 1, 1)},
		{month(5, 9, 1, 5), list(0, 1), month(1, 2, 1, 2)},
		{month(6, 9, 1, 5), list(1, 0), month(2, 2, 1, 1)},
		{month(7, 9, 5, 5, 3, 6, 1, 4), list(2, 3, 1, 0), month(4, 4, 2, 3, 1, 3, 1, 2)},
		{month(9, 9, 8, 8, 1, 20, 7, 7), list(2, 3, 1, 0), month(3, 4, 2, 3, 1, 4, 1, 2)},
		{month(5, 6, 1, 4, 4, 5), list(1, 0, 2), month(2, 3, 1, 2, 1, 3)},
		// A smaller day has to wait for a greater one that is free at once.
		{month(5, 5, 9, 9, 0, 9, 1, 1), list(2, 3, 0, 1), month(2, 3, 3, 4, 1, 4, 1, 2)},
		{wide(5), list(0, 1, 2, 3, 4), month(1, 2, 2, 3, 3, 4, 4, 5, 1, 5)},
	} {
		first, e := rank.First(x.m)
		ranks, f := rank.Ranks(x.m)
		if !slices.Equal(first, x.first) || e != api.OK || !slices.Equal(ranks, x.ranks) || f != api.OK {
			t.Errorf("%d: First %v %d, Ranks %v %d, want %v, %v", i, first, e, ranks, f, x.first, x.ranks)
		}
	}
}

// P12.4: days that can be, and days that surely are, among the quietest.
func TestQuietest(t *testing.T) {
	for i, x := range []struct {
		m         []api.Span
		k         int
		can, sure []int
		e         api.Errno
	}{
		{example(), 1, list(0, 1), nil, api.OK},
		{example(), 2, list(0, 1, 2), list(0), api.OK},
		{example(), 3, list(0, 1, 2), list(0, 1, 2), api.OK},
		{example(), 4, upTo(4), upTo(4), api.OK},
		{month(4, 4), 1, list(0), list(0), api.OK},
		{same(3), 1, upTo(3), nil, api.OK},
		{same(3), 2, upTo(3), nil, api.OK},
		{same(3), 3, upTo(3), upTo(3), api.OK},
		{row(30), 5, upTo(5), upTo(5), api.OK},
		{month(9, 9, 8, 8, 1, 20, 7, 7), 1, list(2, 3), nil, api.OK},
		{month(9, 9, 8, 8, 1, 20, 7, 7), 2, list(1, 2, 3), list(3), api.OK},
		{month(5, 9, 1, 5), 1, list(0, 1), nil, api.OK},
		{month(6, 9, 1, 5), 1, list(1), list(1), api.OK},
		{example(), 0, nil, nil, api.ErrRange},
		{example(), 5, nil, nil, api.ErrRange},
		{example(), -1, nil, nil, api.ErrRange},
		{example(), math.MinInt, nil, nil, api.ErrRange},
		{example(), math.MaxInt, nil, nil, api.ErrRange},
		{row(30), 31, nil, nil, api.ErrRange},
	} {
		can, sure, e := rank.Quietest(x.m, x.k)
		if !slices.Equal(can, x.can) || !slices.Equal(sure, x.sure) || e != x.e {
			t.Errorf("%d: Quietest %v, %v %d, want %v, %v %d", i, can, sure, e, x.can, x.sure, x.e)
		}
	}
}

// P12.5: numbers of orders that can be told without listing them.
func TestCount(t *testing.T) {
	for i, x := range []struct {
		m    []api.Span
		want int
	}{
		{example(), 3},
		{month(8, 8), 1},
		{row(12), 1},
		{same(2), 2},
		{same(11), 39916800},
		{same(12), 479001600},
		{month(1, 1, 1, 1, 2, 2, 2, 2), 4},
		{wide(4), 4},
		{wide(12), 12},
		{steps(3), 3},
		{steps(4), 5},
		{steps(12), 233},
		{month(9, 9, 8, 8, 1, 20, 7, 7), 4},
		{append(same(6), slices.Repeat(month(6, 7), 6)...), 720 * 720},
	} {
		if n, e := rank.Count(x.m); n != x.want || e != api.OK {
			t.Errorf("%d: Count %d %d, want %d", i, n, e, x.want)
		}
	}
}

// P12.5, P12.11: numbers of orders, and orders with numbers.
func TestNumber(t *testing.T) {
	for i, x := range []struct {
		m      []api.Span
		order  []int
		number int
	}{
		{example(), list(0, 1, 2, 3), 0},
		{example(), list(0, 2, 1, 3), 1},
		{example(), list(1, 0, 2, 3), 2},
		{month(3, 3), list(0), 0},
		{same(4), list(1, 0, 3, 2), 7},
		{same(4), list(3, 2, 1, 0), 23},
		{same(12), upTo(12), 0},
		{same(12), backwards(upTo(12)), 479001599},
		{row(12), upTo(12), 0},
		{month(1, 1, 1, 1, 2, 2, 2, 2), list(1, 0, 3, 2), 3},
		{wide(4), list(3, 0, 1, 2), 3},
		{wide(4), list(0, 1, 3, 2), 1},
	} {
		if n, e := rank.Number(x.m, x.order); n != x.number || e != api.OK {
			t.Errorf("%d: Number %d %d, want %d", i, n, e, x.number)
		}
		if order, e := rank.At(x.m, x.number); !slices.Equal(order, x.order) || e != api.OK {
			t.Errorf("%d: At %v %d, want %v", i, order, e, x.order)
		}
	}
}

// P12.5: orders without a number, and numbers without an order.
func TestBadNumbers(t *testing.T) {
	for i, x := range []struct {
		order []int
		e     api.Errno
	}{
		{list(2, 0, 1, 3), api.ErrClash},
		{list(0, 1, 3, 2), api.ErrClash},
		{list(2, 0, 1), api.ErrShape},
		{nil, api.ErrShape},
		{list(2, 0, 1, 4), api.ErrNone},
		{list(0, 0, 1, 9), api.ErrTwice},
	} {
		if n, e := rank.Number(example(), x.order); n != 0 || e != x.e {
			t.Errorf("%d: Number %d %d, want %d", i, n, e, x.e)
		}
	}
	for i, x := range []struct {
		m      []api.Span
		number int
	}{
		{example(), -1},
		{example(), 3},
		{example(), 1 << 40},
		{example(), math.MinInt},
		{example(), math.MaxInt},
		{row(12), 1},
		{same(12), 479001600},
	} {
		if order, e := rank.At(x.m, x.number); len(order) > 0 || e != api.ErrRange {
			t.Errorf("%d: At %v %d", i, order, e)
		}
	}
}

// P12.6: numbers of groups, from none of the days to all of them.
func TestGroups(t *testing.T) {
	for i, x := range []struct {
		m    []api.Span
		k    int
		want int
		e    api.Errno
	}{
		{example(), 0, 1, api.OK},
		{example(), 1, 2, api.OK},
		{example(), 2, 2, api.OK},
		{example(), 3, 1, api.OK},
		{example(), 4, 1, api.OK},
		{same(12), 0, 1, api.OK},
		{same(12), 1, 12, api.OK},
		{same(12), 6, 924, api.OK},
		{same(12), 12, 1, api.OK},
		{row(12), 6, 1, api.OK},
		{wide(12), 6, 2, api.OK},
		{month(1, 1, 1, 1, 2, 2, 2, 2), 3, 2, api.OK},
		{example(), -1, 0, api.ErrRange},
		{example(), 5, 0, api.ErrRange},
		{example(), math.MinInt, 0, api.ErrRange},
		{example(), math.MaxInt, 0, api.ErrRange},
		{same(12), 13, 0, api.ErrRange},
	} {
		if n, e := rank.Groups(x.m, x.k); n != x.want || e != x.e {
			t.Errorf("%d: Groups %d %d, want %d %d", i, n, e, x.want, x.e)
		}
	}
}

// P12.7: chances, reduced, and days and ranks that there are not.
func TestChance(t *testing.T) {
	for i, x := range []struct {
		m       []api.Span
		day, at int
		want    api.Ratio
		e       api.Errno
	}{
		{example(), 1, 2, part(1, 3), api.OK},
		{example(), 1, 1, part(1, 3), api.OK},
		{example(), 1, 4, part(0, 1), api.OK},
		{example(), 0, 1, part(2, 3), api.OK},
		{example(), 2, 1, part(0, 1), api.OK},
		{example(), 3, 4, part(1, 1), api.OK},
		{month(3, 3), 0, 1, part(1, 1), api.OK},
		{same(12), 5, 7, part(1, 12), api.OK},
		{same(12), 11, 12, part(1, 12), api.OK},
		{wide(12), 11, 1, part(1, 12), api.OK},
		{wide(12), 0, 1, part(11, 12), api.OK},
		{wide(12), 5, 6, part(1, 2), api.OK},
		{month(9, 9, 8, 8, 1, 20, 7, 7), 3, 1, part(3, 4), api.OK},
		{example(), 4, 0, part(0, 0), api.ErrNone},
		{example(), -1, 1, part(0, 0), api.ErrNone},
		{example(), 4, 1, part(0, 0), api.ErrNone},
		{example(), math.MinInt, 1, part(0, 0), api.ErrNone},
		{example(), math.MaxInt, 1, part(0, 0), api.ErrNone},
		{example(), 0, 0, part(0, 0), api.ErrRange},
		{example(), 0, 5, part(0, 0), api.ErrRange},
		{example(), 0, -1, part(0, 0), api.ErrRange},
		{example(), 0, math.MaxInt, part(0, 0), api.ErrRange},
		{example(), 0, math.MinInt, part(0, 0), api.ErrRange},
	} {
		if r, e := rank.Chance(x.m, x.day, x.at); r != x.want || e != x.e {
			t.Errorf("%d: Chance %v %d, want %v %d", i, r, e, x.want, x.e)
		}
	}
}

// P12.7: how probable it is that a day comes before another one.
func TestBefore(t *testing.T) {
	for i, x := range []struct {
		m    []api.Span
		a, b int
		want api.Ratio
		e    api.Errno
	}{
		{example(), 1, 2, part(2, 3), api.OK},
		{example(), 2, 1, part(1, 3), api.OK},
		{example(), 0, 1, part(2, 3), api.OK},
		{example(), 0, 3, part(1, 1), api.OK},
		{example(), 3, 0, part(0, 1), api.OK},
		{same(2), 1, 0, part(1, 2), api.OK},
		{same(12), 3, 9, part(1, 2), api.OK},
		{steps(4), 0, 1, part(3, 5), api.OK},
		{wide(12), 11, 0, part(1, 12), api.OK},
		{wide(12), 2, 11, part(3, 4), api.OK},
		{month(9, 9, 8, 8, 1, 20, 7, 7), 2, 1, part(1, 2), api.OK},
		{example(), 1, 1, part(0, 0), api.ErrTwice},
		{example(), 4, 4, part(0, 0), api.ErrNone},
		{example(), -1, -1, part(0, 0), api.ErrNone},
		{example(), 0, -1, part(0, 0), api.ErrNone},
		{example(), 0, 4, part(0, 0), api.ErrNone},
		{example(), 4, 0, part(0, 0), api.ErrNone},
		{example(), math.MinInt, 0, part(0, 0), api.ErrNone},
		{example(), 0, math.MaxInt, part(0, 0), api.ErrNone},
		{month(3, 3), 0, 0, part(0, 0), api.ErrTwice},
	} {
		if r, e := rank.Before(x.m, x.a, x.b); r != x.want || e != x.e {
			t.Errorf("%d: Before %v %d, want %v %d", i, r, e, x.want, x.e)
		}
	}
}
