package pillar_test

import (
	"math"
	"reflect"
	"slices"
	"testing"

	"agonic/api"
	"agonic/pillar"
)

// R3: a nil list and a list without elements mean the same.
func TestNilLists(t *testing.T) {
	for _, rows := range [][][]int{nil, {}} {
		if e := pillar.Check(pillar.Plan{Errors: 2, Rows: rows}); e != api.ErrEmpty {
			t.Errorf("Check without rows: %d", e)
		}
	}
	for _, row := range [][]int{nil, {}} {
		if e := pillar.Check(plan(0, row)); e != api.ErrShape {
			t.Errorf("Check of an empty row: %d", e)
		}
		if e := pillar.Hides(planQ, row); e != api.ErrShape {
			t.Errorf("Hides of no numbers: %d", e)
		}
		if e := pillar.Verify(planQ, spans(0, 1, 5, 5), row); e != api.ErrShape {
			t.Errorf("Verify of no numbers: %d", e)
		}
		if _, _, e := pillar.Bound(planP, spans(0, 1, 5, 5), pillar.Weights{Under: 1, Of: row}); e != api.ErrShape {
			t.Errorf("Bound of no numbers: %d", e)
		}
	}
	for _, readings := range [][]api.Span{nil, {}} {
		_, _, bound := pillar.Bound(planQ, readings, pillar.Weights{})
		_, _, value := pillar.Value(planQ, readings)
		_, _, ends := pillar.Ends(planQ, readings)
		_, clash := pillar.Clash(planQ, readings)
		verify := pillar.Verify(planQ, readings, nil)
		for i, e := range []api.Errno{bound, value, ends, clash, verify} {
			if e != api.ErrShape {
				t.Errorf("no readings, %d: %d", i, e)
			}
		}
	}
}

// everything calls all functions, and returns what they return.
func everything(p pillar.Plan, readings []api.Span, w pillar.Weights, numbers []int) []any {
	a, b := pillar.Weigh(p)
	c, d := pillar.Hidden(p)
	e, f, g := pillar.Bound(p, readings, w)
	h, i, j := pillar.Value(p, readings)
	k, l, m := pillar.Ends(p, readings)
	n, o := pillar.Clash(p, readings)
	return []any{pillar.Check(p), a, b, c, d, pillar.Hides(p, numbers), e, f, g, h, i, j, k, l, m, n, o, pillar.Verify(p, readings, numbers)}
}

// R4: arguments stay as they are, and results share no memory with them, with each other, or with later results.
func TestMemory(t *testing.T) {
	d := dice{10}
	for range 500 {
		p := d.plan(pillar.MaxRows)
		readings, w, numbers := d.mixed(p), pillar.Weights{Under: 1, Of: d.numbers(len(p.Rows), 3)}, d.numbers(p.Errors+1, 3)
		q, others, v, kept := clonePlan(p), slices.Clone(readings), pillar.Weights{Under: 1, Of: slices.Clone(w.Of)}, slices.Clone(numbers)
		first := everything(p, readings, w, numbers)
		if !reflect.DeepEqual([]any{p, readings, w, numbers}, []any{q, others, v, kept}) {
			t.Fatalf("arguments changed: %v %v %v %v", q, others, v, kept)
		}
		overwrite(everything(p, readings, w, numbers))
		if !reflect.DeepEqual([]any{p, readings, w, numbers}, []any{q, others, v, kept}) {
			t.Fatalf("results share memory with arguments: %v %v", q, others)
		}
		if !reflect.DeepEqual(first, everything(p, readings, w, numbers)) {
			t.Fatalf("results share memory with later ones: %v %v", q, others)
		}
		low, high, _ := pillar.Ends(p, readings)
		before := slices.Clone(high.Of)
		overwrite([]any{low})
		if !slices.Equal(high.Of, before) {
			t.Fatalf("the weights of Ends share memory: %v %v", q, others)
		}
	}
}

// overwrite changes all lists of results.
func overwrite(results []any) {
	for _, r := range results {
		list, _ := r.([]int)
		if w, ok := r.(pillar.Weights); ok {
			list = w.Of
		}
		for i := range list {
			list[i] = 77777
		}
	}
}

// P1, R5: all functions terminate without a panic, for numbers and sizes of all kinds, and equal arguments yield equal results.
func TestAnyArguments(t *testing.T) {
	d := dice{11}
	numbers := func(most int) []int {
		out := make([]int, d.roll(0, most))
		for i := range out {
			out[i] = d.roll(-4, 4)
			if d.roll(0, 9) == 0 {
				out[i] = []int{math.MinInt, math.MaxInt, 10000, -10001, 1 << 40}[d.roll(0, 4)]
			}
		}
		return out
	}
	for range 8000 {
		p := plan(d.roll(-1, 4))
		for range d.roll(0, 9) {
			row := d.numbers(max(0, p.Errors+1), 3)
			if d.roll(0, 15) == 0 {
				row = numbers(6)
			}
			p.Rows = append(p.Rows, row)
		}
		var readings []api.Span
		for range len(p.Rows) - d.roll(0, 8)/8 {
			readings = append(readings, api.Span{Lo: d.roll(-9, 0), Hi: d.roll(0, 9)})
		}
		if d.roll(0, 9) == 0 && len(readings) > 0 {
			readings[0] = api.Span{Lo: math.MinInt, Hi: math.MaxInt}
		}
		w, list := pillar.Weights{Under: d.roll(-1, 3), Of: numbers(9)}, numbers(9)
		first := everything(p, readings, w, list)
		everything(planR, spans(1, 2, 3, 4, 5, 6), pillar.Weights{}, nil)
		if !reflect.DeepEqual(first, everything(p, readings, w, list)) {
			t.Fatalf("different results: %v %v %v %v", p, readings, w, list)
		}
	}
}

// P1.2, Terms: all weights are small, and every fraction is reduced.
func TestSizes(t *testing.T) {
	d := dice{12}
	for range 3000 {
		p := plan(pillar.MaxErrors)
		for range d.roll(4, pillar.MaxRows) {
			row := d.numbers(4, pillar.MaxFactor)
			for j := range row {
				if d.roll(0, 1) == 0 {
					row[j] = []int{-3, 3}[d.roll(0, 1)]
				}
			}
			p.Rows = append(p.Rows, row)
		}
		checkEither(t, p)
		lo, hi, e := pillar.Value(p, d.around(p, d.numbers(4, 75000), 1, 50000))
		if e != api.OK && e != api.ErrLost || e == api.OK && (lo != reduced(lo.Num, lo.Den) || hi != reduced(hi.Num, hi.Den)) {
			t.Fatalf("Value(%v): %v %v %d", p, lo, hi, e)
		}
	}
}
