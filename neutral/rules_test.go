package neutral_test

import (
	"math"
	"reflect"
	"slices"
	"testing"

	"agonic/api"
	"agonic/neutral"
)

// answers calls all functions but Check, and returns what they return, each result before its error.
func answers(p []int, a, b api.Ratio) []any {
	sign, c := neutral.Sign(p, a)
	core, d := neutral.Core(p)
	chain, e := neutral.Chain(p)
	changes, f := neutral.Changes(p, a)
	count, g := neutral.Count(p, a, b)
	roots, h := neutral.Roots(p)
	fourier, i := neutral.Fourier(p, a, b)
	return []any{sign, c, core, d, chain, e, changes, f, count, g, roots, h, fourier, i}
}

// R3: a nil list and a list without elements mean the same.
func TestNilLists(t *testing.T) {
	if x, y := answers(nil, part(0, 1), part(1, 1)), answers(list(), part(0, 1), part(1, 1)); !reflect.DeepEqual(x, y) {
		t.Errorf("nil list: %v, empty one: %v", x, y)
	}
}

// overwrite changes a list, and what is behind its end.
func overwrite(l []int) {
	l = l[:cap(l)]
	for i := range l {
		l[i] = 77777
	}
}

// R4: arguments stay as they are, and results share no memory with them, with later
// results, or with each other.
func TestMemory(t *testing.T) {
	d := dice{21}
	for range 2000 {
		p := d.polynomial()
		kept, x := slices.Clone(p), d.ordered(p, 2)
		first, second := answers(p, x[0], x[1]), answers(p, x[0], x[1])
		overwrite(second[2].([]int))
		all := second[10].([]neutral.Root)
		for i := range all {
			all[i] = neutral.Root{Up: 77777, Times: 77777}
		}
		chain := second[4].([][]int)
		for i := range chain {
			var rest [][]int
			for _, element := range chain[i+1:] {
				rest = append(rest, slices.Clone(element))
			}
			overwrite(chain[i])
			if !slices.EqualFunc(rest, chain[i+1:], slices.Equal[[]int]) {
				t.Fatalf("elements share memory: %v", kept)
			}
		}
		if !slices.Equal(p, kept) || !reflect.DeepEqual(first, answers(p, x[0], x[1])) {
			t.Fatalf("arguments changed, or results share memory: %v", kept)
		}
	}
}

// R4: a list's room behind its end stays as it is.
func TestRoomBehind(t *testing.T) {
	d := dice{22}
	for range 2000 {
		all := append(d.polynomial(), 1, 2, 3, 4)
		kept := slices.Clone(all)
		answers(all[:len(all)-4], part(-5, 1), part(5, 1))
		if !slices.Equal(all, kept) {
			t.Fatalf("argument changed: %v, was %v", all, kept)
		}
	}
}

// trueErrors returns the errors of all functions by the promises, in the order of failures.
func trueErrors(p []int, a, b api.Ratio) []api.Errno {
	e := trueCheck(p)
	if e != api.OK {
		return slices.Repeat([]api.Errno{e}, 8)
	}
	one, two := api.OK, api.OK
	switch {
	case !isArgument(a):
		one, two = api.ErrRange, api.ErrRange
	case !isArgument(b):
		two = api.ErrRange
	case rat(a).Cmp(rat(b)) > 0:
		two = api.ErrOrder
	}
	return []api.Errno{e, one, e, e, one, two, e, two}
}

// P1, R5: all functions terminate without a panic, for numbers and sizes of all kinds, and
// equal arguments yield equal results with the errors of the promises.
func TestAnyArguments(t *testing.T) {
	d := dice{23}
	number := func(n, rare int) int {
		if d.roll(0, rare) == 0 {
			return d.pick(math.MinInt, math.MaxInt, -1, 0, 51, -51, 1001, 100001, -100001, 1<<50, -1<<62)
		}
		return n
	}
	count := map[api.Errno]int{}
	for range 8000 {
		p := d.polynomial()
		a, b := d.argument(p), d.argument(p)
		switch d.roll(0, 5) {
		case 0:
			for i := range p {
				p[i] = number(p[i], 3)
			}
		case 1:
			p = p[:d.roll(0, len(p))]
		case 2:
			p = slices.Repeat(p, d.pick(0, 1, 2, 100))
		case 3:
			a, b = part(number(a.Num, 3), number(a.Den, 3)), part(number(b.Num, 3), number(b.Den, 3))
		}
		first := answers(p, a, b)
		answers(three(), part(0, 1), part(5, 1))
		if !reflect.DeepEqual(first, answers(p, a, b)) {
			t.Fatalf("different results: %v %v %v", p, a, b)
		}
		got := failures(t, p, a, b)
		if want := trueErrors(p, a, b); !slices.Equal(got, want) {
			t.Fatalf("%v %v %v: errors %v, want %v", p, a, b, got, want)
		}
		for _, e := range got {
			count[e]++
		}
	}
	for _, e := range []api.Errno{api.OK, api.ErrRange, api.ErrEmpty, api.ErrMany, api.ErrOrder, api.ErrFlat} {
		if count[e] < 100 {
			t.Errorf("too few of one kind: %v", count)
		}
	}
}
