package magnet_test

import (
	"math"
	"reflect"
	"slices"
	"testing"

	"agonic/api"
	"agonic/magnet"
)

// answers calls all functions, and returns what they return.
func answers(k magnet.Kit, q question) []any {
	a, b := magnet.Rest(k, q.iron, q.c)
	c, d, e := magnet.Reduce(k)
	f, g := magnet.Reduced(k)
	h, i := magnet.Shortest(k)
	j, l, m := magnet.Best(k, q.iron)
	n := magnet.Verify(k, q.first, q.second, q.iron, q.c)
	o, p := magnet.All(k, q.iron)
	r, s := magnet.Within(k, q.iron, q.square)
	return []any{magnet.Check(k), a, b, c, d, e, f, g, h, i, j, l, m, n, o, p, r, s}
}

// R4: results share no memory with later results.
func TestMemory(t *testing.T) {
	d := dice{17}
	for range 500 {
		k := d.kit()
		iron := d.iron(k)
		first, second := best(t, k, iron), best(t, k, iron)
		kept := slices.Clone(first)
		for i := range second {
			second[i] = choice(77777, 77777)
		}
		if !slices.Equal(first, kept) || !slices.Equal(best(t, k, iron), kept) {
			t.Fatalf("results share memory: %v %v", k, iron)
		}
	}
}

// P1, R5: all functions terminate without a panic, for numbers of all kinds, and equal arguments yield equal results.
func TestAnyArguments(t *testing.T) {
	d := dice{18}
	rare := 30
	number := func(n int) int {
		if d.roll(0, rare) == 0 {
			return d.pick(math.MinInt, math.MaxInt, -1, 0, 1000, 1001, 10001, -100000001, 1000000001, 1<<50)
		}
		return n
	}
	of := func(most int) magnet.Vector { return vector(number(d.roll(-most, most)), number(d.roll(-most, most))) }
	some := func() magnet.Choice {
		most := d.pick(1, 3, 1000, magnet.MaxChoice)
		return choice(number(d.roll(-most, most)), number(d.roll(-most, most)))
	}
	count := map[api.Errno]int{}
	for i := range 20000 {
		rare = 30
		if i%20 == 0 {
			rare = 1
		}
		most := d.pick(1, 2, 30, magnet.MaxPull)
		k := magnet.Kit{A: of(most), B: of(most)}
		q := question{of(d.pick(9, magnet.MaxIron)), some(), some(), some(), number(d.roll(0, d.pick(9, 9999, magnet.MaxSquare)))}
		if first, second, e := magnet.Reduce(k); e == api.OK && d.roll(0, 1) == 0 {
			q.first, q.second = first, second
		}
		if c, _, e := magnet.Best(k, q.iron); e == api.OK && d.roll(0, 1) == 0 {
			q.c = c
		}
		first := answers(k, q)
		answers(skew(), question{iron: vector(1, 0)})
		if !reflect.DeepEqual(first, answers(k, q)) {
			t.Fatalf("different results: %v %v", k, q)
		}
		for _, i := range list(0, 2, 13, 17) {
			e, _ := first[i].(api.Errno)
			count[e]++
		}
	}
	for _, e := range []api.Errno{api.OK, api.ErrRange, api.ErrFlat, api.ErrOrder, api.ErrProof, api.ErrOver} {
		if count[e] < 100 {
			t.Errorf("too few of one kind: %v", count)
		}
	}
}

// P1: no kit with small pulls, and none with the greatest ones, keeps a function going, or leads to another result than the definition's.
func TestAllSmallKits(t *testing.T) {
	for n := range 5 * 5 * 5 * 5 {
		k := kit(n%5-2, n/5%5-2, n/25%5-2, n/125-2)
		if magnet.Check(k) != api.OK {
			continue
		}
		great := kit(500*k.A.X, 500*k.A.Y, 500*k.B.X, 500*k.B.Y)
		for m := range 5 * 5 {
			iron := vector(m%5-2, m/5-2)
			want, square := trueBest(k, iron)
			if got := best(t, k, iron); !slices.Equal(got, want) || least(t, k, iron) != square {
				t.Fatalf("All(%v, %v) = %v, want %v", k, iron, got, want)
			}
			if got := best(t, great, vector(500*iron.X, 500*iron.Y)); !slices.Equal(got, want) {
				t.Fatalf("500 times %v, %v: All %v, want %v", k, iron, got, want)
			}
		}
	}
}
