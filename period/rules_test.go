package period_test

import (
	"math"
	"reflect"
	"slices"
	"testing"

	"agonic/api"
	"agonic/period"
)

// call is a call of all functions.
type call struct {
	l         period.Log
	counts    []int
	low, high [2]int
	a, b      api.Ratio
	path      []int
}

func (c call) answers() []any {
	a, b, d := period.Period(c.l, c.counts)
	e, f, g := period.Bounds(c.l, c.counts)
	h, i := period.Counts(c.l)
	j, k := period.Total(c.l)
	l, m := period.Simplest(c.a, c.b)
	n, o := period.Path(c.a)
	p, q := period.Follow(c.path)
	verify := period.Verify(c.l, c.counts, c.low, c.high)
	return []any{period.Check(c.l), a, b, d, e, f, g, verify, h, i, j, k, l, m, n, o, p, q}
}

func (c call) clone() call {
	c.l, c.counts, c.path = clone(c.l), slices.Clone(c.counts), slices.Clone(c.path)
	return c
}

// call returns a call with arguments that are mostly without an error.
func (d *dice) call() call {
	l, counts := d.mixed()
	a := d.fraction()
	return call{l, counts, [2]int{0, 1}, [2]int{d.roll(0, 1), d.roll(1, 2)}, a, d.near(a), list(d.roll(0, 3), d.roll(0, 5), d.roll(0, 200))}
}

// R3: a nil list and a list without elements mean the same.
func TestNilLists(t *testing.T) {
	empty := call{l: of(1, 1), counts: []int{}, path: []int{}}
	empty.l.Passages = []api.Span{}
	if x, y := (call{l: of(1, 1)}).answers(), empty.answers(); !reflect.DeepEqual(x, y) {
		t.Errorf("nil lists: %v, empty ones: %v", x, y)
	}
}

// overwrite changes all lists of results.
func overwrite(results []any) {
	for _, r := range results {
		switch l := r.(type) {
		case []int:
			for i := range l {
				l[i] = 77777
			}
		case [][]int:
			for _, counts := range l {
				for i := range counts {
					counts[i] = 77777
				}
			}
		}
	}
}

// R4: arguments stay as they are, and results share no memory with later results, or with each other.
func TestMemory(t *testing.T) {
	d := dice{21}
	for range 1000 {
		c := d.call()
		kept := c.clone()
		first, second := c.answers(), c.answers()
		overwrite(second)
		if !reflect.DeepEqual(c, kept) || !reflect.DeepEqual(first, c.answers()) {
			t.Fatalf("arguments changed, or results share memory: %v", kept)
		}
		all, _ := period.Counts(c.l)
		for i, counts := range all {
			before := slices.Clone(all[min(i+1, len(all)-1)])
			_ = append(counts, 77777)
			if i+1 < len(all) && !slices.Equal(all[i+1], before) {
				t.Fatalf("counts share memory: %v", kept)
			}
		}
	}
}

// R4: a list's room behind its end stays as it is.
func TestRoomBehind(t *testing.T) {
	l, counts, path := example(), list(4, 6), list(1, 2, 1)
	c := call{l: l, counts: counts[:1], a: part(1, 2), b: part(2, 3), path: path[:2]}
	c.l.Passages = l.Passages[:2]
	c.answers()
	if !reflect.DeepEqual(l, example()) || !slices.Equal(counts, list(4, 6)) || !slices.Equal(path, list(1, 2, 1)) {
		t.Errorf("arguments changed: %v %v %v", l, counts, path)
	}
}

// P1, R5: all functions terminate without a panic, for numbers and sizes of all kinds, and equal arguments yield equal results.
func TestAnyArguments(t *testing.T) {
	d := dice{22}
	number := func(n, rare int) int {
		if d.roll(0, rare) == 0 {
			return d.pick(math.MinInt, math.MaxInt, -1, 0, 1, 10000, 10001, 1000000, 1000001, 1<<50, -1<<62)
		}
		return n
	}
	count := map[api.Errno]int{}
	for range 6000 {
		c := d.call()
		c.l.Period = api.Span{Lo: number(c.l.Period.Lo, 30), Hi: number(c.l.Period.Hi, 30)}
		for i, p := range c.l.Passages {
			c.l.Passages[i] = api.Span{Lo: number(p.Lo, 60), Hi: number(p.Hi, 60)}
		}
		switch d.roll(0, 15) {
		case 0:
			c.l.Passages = slices.Repeat(c.l.Passages, d.roll(0, 5))
		case 1:
			c.counts = c.counts[1:]
		}
		for i, n := range c.counts {
			c.counts[i] = number(n, 20)
		}
		for i, n := range c.path {
			c.path[i] = number(n, 9)
		}
		c.path = slices.Repeat(c.path, d.pick(1, 1, 2, 9, 14))
		c.low, c.high = [2]int{number(0, 9), number(1, 9)}, [2]int{number(c.high[0], 9), number(c.high[1], 9)}
		c.a, c.b = part(number(c.a.Num, 9), number(c.a.Den, 9)), part(number(c.b.Num, 9), number(c.b.Den, 9))
		first := c.answers()
		call{l: example(), counts: list(4, 6)}.answers()
		if !reflect.DeepEqual(first, c.answers()) {
			t.Fatalf("different results: %v", c)
		}
		for _, i := range list(3, 7, 11, 13, 17) {
			e, _ := first[i].(api.Errno)
			count[e]++
		}
	}
	for _, e := range []api.Errno{api.OK, api.ErrRange, api.ErrEmpty, api.ErrMany, api.ErrShape, api.ErrOrder, api.ErrProof, api.ErrClash, api.ErrOver} {
		if count[e] < 30 {
			t.Errorf("too few of one kind: %v", count)
		}
	}
}
