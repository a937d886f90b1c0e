package total_test

import (
	"math"
	"reflect"
	"slices"
	"testing"

	"agonic/api"
	"agonic/total"
)

// all calls all functions, and returns what they return.
func all(n total.Net, group []int, quantity int, high bool) []any {
	a, b := total.Equation(n, group)
	c, d := total.Squares(n)
	e, f := total.Lengths(n)
	g, h := total.Truth(n, quantity, high)
	i, j := total.Clash(n)
	k, l := total.Suspects(n)
	return []any{total.Check(n), a, b, c, d, e, f, g, h, i, j, total.Verify(n, group), k, l}
}

// R3: a nil list and a list without elements mean the same.
func TestNilLists(t *testing.T) {
	for _, s := range [][]api.Span{nil, {}} {
		for _, triangles := range [][]total.Triangle{nil, {}} {
			for i, e := range failures(t, total.Net{Spans: s, Triangles: triangles}, nil, 0, false) {
				if e != api.ErrEmpty {
					t.Errorf("function %d without quantities: %d", i, e)
				}
			}
		}
	}
	a := total.Net{Spans: spans(1, 2, 0, 0)}
	b := total.Net{Spans: spans(1, 2, 0, 0), Triangles: []total.Triangle{}}
	if x, y := all(a, nil, 1, true), all(b, []int{}, 1, true); !reflect.DeepEqual(x, y) {
		t.Errorf("nil lists: %v, empty ones: %v", x, y)
	}
}

// overwrite changes all lists of results.
func overwrite(results []any) {
	for _, r := range results {
		switch l := r.(type) {
		case []int:
			for i := range l {
				l[i] = 77777
			}
		case []api.Span:
			for i := range l {
				l[i] = span(77777, 77777)
			}
		}
	}
}

// R4: arguments stay as they are, and results share no memory with them, with each other, or with later results.
func TestMemory(t *testing.T) {
	d := dice{10}
	for range 1000 {
		n := d.mixed()
		group, quantity := list(0, 1, 2)[:d.roll(0, 3)], d.roll(0, len(n.Spans)-1)
		kept, keptGroup := clone(n), slices.Clone(group)
		first := all(n, group, quantity, true)
		second := all(n, group, quantity, true)
		overwrite(second)
		if !reflect.DeepEqual(n, kept) || !slices.Equal(group, keptGroup) {
			t.Fatalf("arguments changed: %v %v", kept, keptGroup)
		}
		if !reflect.DeepEqual(first, all(n, group, quantity, true)) {
			t.Fatalf("results share memory with later ones: %v %v", n, group)
		}
	}
}

// P1, R5: all functions terminate without a panic, for numbers and sizes of all kinds, and equal arguments yield equal results.
func TestAnyArguments(t *testing.T) {
	d := dice{11}
	number := func(a, b int) int {
		if d.roll(0, 90) == 0 {
			return list(math.MinInt, math.MaxInt, -1, 10000, 10001, 11, 1<<31, 1<<50)[d.roll(0, 7)]
		}
		return d.roll(a, b)
	}
	count := map[api.Errno]int{}
	for range 20000 {
		n := d.mixed()
		for q, s := range n.Spans {
			if d.roll(0, 20) == 0 {
				n.Spans[q] = span(number(s.Lo, s.Lo+1), number(s.Hi, s.Hi+1))
			}
		}
		for i, x := range n.Triangles {
			if d.roll(0, 20) == 0 {
				n.Triangles[i] = total.Triangle{A: number(x.A, x.A+1), B: number(0, 10), Whole: number(x.Whole, x.Whole)}
			}
		}
		if d.roll(0, 20) == 0 {
			n.Spans = append(n.Spans, n.Spans...)
			n.Triangles = append(n.Triangles, n.Triangles...)
		}
		var group []int
		for range d.roll(0, 4) {
			group = append(group, number(len(group), len(group)+1))
		}
		quantity := number(0, 10)
		high := d.roll(0, 1) == 0
		first := all(n, group, quantity, high)
		all(example(14, 20), list(0, 1), 1, true)
		if !reflect.DeepEqual(first, all(n, group, quantity, high)) {
			t.Fatalf("different results: %v %v %d %v", n, group, quantity, high)
		}
		e, _ := first[0].(api.Errno)
		count[e]++
	}
	for _, e := range []api.Errno{api.OK, api.ErrMany, api.ErrRange, api.ErrNone, api.ErrTwice, api.ErrFold} {
		if count[e] < 30 {
			t.Errorf("too few of one kind: %v", count)
		}
	}
	for _, square := range list(math.MinInt, -1, 0, 1<<50, 1<<50+1, math.MaxInt) {
		total.Root(square)
	}
}
