package rank_test

import (
	"math"
	"reflect"
	"slices"
	"testing"

	"agonic/api"
	"agonic/rank"
)

// answers calls all functions, and returns what they return, results before their errors.
func (q question) answers() []any {
	p, r, fault := rank.Fault(q.m, q.order)
	first, a := rank.First(q.m)
	ranks, b := rank.Ranks(q.m)
	can, sure, c := rank.Quietest(q.m, q.k)
	count, d := rank.Count(q.m)
	number, e := rank.Number(q.m, q.order)
	at, f := rank.At(q.m, q.number)
	groups, g := rank.Groups(q.m, q.k)
	chance, h := rank.Chance(q.m, q.day, q.at)
	before, i := rank.Before(q.m, q.day, q.to)
	possible, verify := rank.Possible(q.m, q.order), rank.Verify(q.m, q.order, q.p, q.q)
	return []any{rank.Check(q.m), possible, p, r, fault, verify, first, a, ranks, b, can, sure, c, count, d, number, e, at, f, groups, g, chance, h, before, i}
}

// errors returns the errors of all functions, and expects zero values beside them.
func (q question) errors(t *testing.T) []api.Errno {
	t.Helper()
	var errors []api.Errno
	var results []reflect.Value
	for _, x := range q.answers() {
		e, is := x.(api.Errno)
		if !is {
			results = append(results, reflect.ValueOf(x))
			continue
		}
		for _, r := range results {
			if e != api.OK && !r.IsZero() && (r.Kind() != reflect.Slice || r.Len() > 0) {
				t.Errorf("%v: error %d and %v", q, e, r)
			}
		}
		errors, results = append(errors, e), nil
	}
	return errors
}

func (q question) clone() question {
	q.m, q.order = slices.Clone(q.m), slices.Clone(q.order)
	return q
}

// question returns a question whose arguments are mostly without an error.
func (d *dice) question() question {
	m := d.month(d.roll(2, d.pick(4, 7, 9, 15)))
	order := d.order(m)
	if d.roll(0, 3) == 0 {
		order = d.shuffled(len(m))
	}
	day := func() int { return d.roll(0, len(m)-1) }
	p, q, e := rank.Fault(m, order)
	if e != api.OK {
		p, q = day(), day()
	}
	return question{m, order, p, q, d.roll(1, len(m)), d.pick(0, 0, 1, 2, 5, 30), day(), d.roll(1, len(m)), day()}
}

// R3: a nil list and a list without elements mean the same.
func TestNilLists(t *testing.T) {
	for _, m := range [][]api.Span{nil, example()} {
		x := question{m: m, k: 1, at: 1, to: 1}
		y := question{m: append([]api.Span{}, m...), order: list(), k: 1, at: 1, to: 1}
		if a, b := x.answers(), y.answers(); !reflect.DeepEqual(a, b) {
			t.Errorf("nil lists: %v, empty ones: %v", a, b)
		}
	}
}

// overwrite changes all lists of results, and what is behind their ends.
func overwrite(results []any) {
	for _, r := range results {
		switch l := r.(type) {
		case []int:
			l = l[:cap(l)]
			for i := range l {
				l[i] = 77777
			}
		case []api.Span:
			l = l[:cap(l)]
			for i := range l {
				l[i] = api.Span{Lo: 77777, Hi: 77777}
			}
		}
	}
}

// R4: arguments stay as they are, and results share no memory with them, with later
// results, or with each other.
func TestMemory(t *testing.T) {
	d := dice{21}
	for range 1000 {
		q := d.question()
		kept := q.clone()
		first, second := q.answers(), q.answers()
		overwrite(second)
		if !reflect.DeepEqual(q, kept) || !reflect.DeepEqual(first, q.answers()) {
			t.Fatalf("arguments changed, or results share memory: %v", kept)
		}
		can, sure, _ := rank.Quietest(q.m, q.k)
		before := slices.Clone(sure)
		overwrite([]any{can})
		if !slices.Equal(sure, before) {
			t.Fatalf("lists share memory: %v", kept)
		}
	}
}

// R4: a list's room behind its end stays as it is.
func TestRoomBehind(t *testing.T) {
	d := dice{22}
	for range 1000 {
		all := d.question()
		all.m, all.order = append(all.m, d.month(30)...), append(all.order, upTo(30)...)
		kept := all.clone()
		q := all
		q.m, q.order = q.m[:len(q.m)-30], q.order[:len(q.order)-30]
		q.answers()
		if !reflect.DeepEqual(all, kept) {
			t.Fatalf("arguments changed: %v, were %v", all, kept)
		}
	}
}

// P1, R5: all functions terminate without a panic, for numbers and sizes of all kinds, and
// equal arguments yield equal results with the errors of the promises.
func TestAnyArguments(t *testing.T) {
	d := dice{23}
	number := func(n, rare int) int {
		if d.roll(0, rare) == 0 {
			return d.pick(math.MinInt, math.MaxInt, -1, 0, 1, 12, 13, 29, 30, 31, 32, 63, 64, 100000, 100001, 1<<32, 1<<50, -1<<62)
		}
		return n
	}
	count := map[api.Errno]int{}
	for range 6000 {
		q := d.question()
		switch d.roll(0, 6) {
		case 0:
			for i := range q.m {
				q.m[i].Lo, q.m[i].Hi = number(q.m[i].Lo, 20), number(q.m[i].Hi, 20)
			}
		case 1:
			q.m = slices.Repeat(q.m, d.pick(0, 1, 2, 3, 20))
			q.order = d.shuffled(len(q.m))
		case 2:
			q.order = slices.Repeat(q.order, d.roll(0, 2))
		case 3:
			for i := range q.order {
				q.order[i] = number(q.order[i], 5)
			}
		case 4, 5:
			q.p, q.q, q.k, q.number = number(q.p, 4), number(q.q, 4), number(q.k, 2), number(q.number, 2)
			q.day, q.at, q.to = number(q.day, 4), number(q.at, 4), number(q.to, 4)
		}
		first := q.answers()
		ask(example()).answers()
		if !reflect.DeepEqual(first, q.answers()) {
			t.Fatalf("different results: %v", q)
		}
		got := q.errors(t)
		if want := q.trueErrors(); !slices.Equal(got, want) {
			t.Fatalf("%v: errors %v, want %v", q, got, want)
		}
		for _, e := range got {
			count[e]++
		}
	}
	for _, e := range []api.Errno{api.OK, api.ErrRange, api.ErrEmpty, api.ErrMany, api.ErrShape, api.ErrNone, api.ErrTwice, api.ErrProof, api.ErrClash, api.ErrOver} {
		if count[e] < 100 {
			t.Errorf("too few of one kind: %v", count)
		}
	}
}

func trueCheck(m []api.Span) api.Errno {
	switch {
	case len(m) == 0:
		return api.ErrEmpty
	case len(m) > 30:
		return api.ErrMany
	case slices.ContainsFunc(m, func(s api.Span) bool { return s.Lo < 0 || s.Hi > 100000 || s.Lo > s.Hi }):
		return api.ErrRange
	}
	return api.OK
}

// trueShape returns the error of an order of so many days.
func trueShape(days int, order []int) api.Errno {
	if len(order) != days {
		return api.ErrShape
	}
	for i, day := range order {
		switch {
		case day < 0 || day >= days:
			return api.ErrNone
		case slices.Contains(order[:i], day):
			return api.ErrTwice
		}
	}
	return api.OK
}

// trueErrors returns the errors of all functions by the promises, in the order of errors.
func (q question) trueErrors() []api.Errno {
	if e := trueCheck(q.m); e != api.OK {
		return slices.Repeat([]api.Errno{e}, 13)
	}
	days := len(q.m)
	has := func(l ...int) bool { return slices.Min(l) >= 0 && slices.Max(l) < days }
	out := make([]api.Errno, 13)
	shape := trueShape(days, q.order)
	out[1], out[2], out[3], out[8] = shape, shape, shape, shape
	switch possible := shape == api.OK && isTrue(q.m, q.order); {
	case possible:
		out[2] = api.ErrNone
	case shape == api.OK:
		out[1], out[8] = api.ErrClash, api.ErrClash
	}
	if shape == api.OK && !has(q.p, q.q) {
		out[3] = api.ErrNone
	} else if shape == api.OK && (q.p >= q.q || isTrue(q.m, list(q.order[q.p], q.order[q.q]))) {
		out[3] = api.ErrProof
	}
	if !has(q.k - 1) {
		out[6] = api.ErrRange
	}
	if days > 12 {
		copy(out[7:], slices.Repeat([]api.Errno{api.ErrOver}, 6))
		return out
	}
	w := newWays(q.m)
	if q.number < 0 || q.number >= w.louder(w.whole()) {
		out[9] = api.ErrRange
	}
	if q.k != 0 && !has(q.k-1) {
		out[10] = api.ErrRange
	}
	switch {
	case !has(q.day):
		out[11] = api.ErrNone
	case !has(q.at - 1):
		out[11] = api.ErrRange
	}
	switch {
	case !has(q.day, q.to):
		out[12] = api.ErrNone
	case q.day == q.to:
		out[12] = api.ErrTwice
	}
	return out
}
