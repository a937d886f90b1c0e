package magnet_test

import (
	"math/big"
	"slices"
	"testing"

	"agonic/api"
	"agonic/magnet"
)

// P6.1, P6.3: complete bundles whose kit is reduced, and the smallest square of a pull.
func TestReduceAgainstDefinition(t *testing.T) {
	d := dice{1}
	count := [2]int{}
	for range 3000 {
		k := d.kit()
		first, second, _ := bundlesOf(t, k)
		if !trueOrder(k, first, second) {
			t.Fatalf("Reduce(%v) = %v %v", k, first, second)
		}
		if got, e := magnet.Shortest(k); got != trueShortest(k) || e != api.OK {
			t.Fatalf("Shortest(%v) = %d %d, want %d", k, got, e, trueShortest(k))
		}
		reduced, e := magnet.Reduced(k)
		if reduced != trueOrder(k, choice(1, 0), choice(0, 1)) || e != api.OK {
			t.Fatalf("Reduced(%v) = %v %d", k, reduced, e)
		}
		if reduced {
			count[0]++
		} else {
			count[1]++
		}
	}
	if count[0] < 300 || count[1] < 300 {
		t.Errorf("too few of one kind: %v", count)
	}
}

// P6.3: kits with pulls of all lengths up to the greatest ones.
func TestReduceGreatPulls(t *testing.T) {
	d := dice{2}
	above := 0
	for range 20000 {
		k := magnet.Kit{A: d.vector(d.pick(1, 30, 1000)), B: d.vector(d.pick(1, 30, 1000))}
		if magnet.Check(k) != api.OK {
			continue
		}
		first, second, reduced := bundlesOf(t, k)
		if !trueOrder(k, first, second) {
			t.Fatalf("Reduce(%v) = %v %v", k, first, second)
		}
		if magnet.Check(reduced) == api.ErrRange {
			above++
		}
		for _, iron := range []magnet.Vector{d.vector(magnet.MaxIron), d.iron(k)} {
			for _, c := range best(t, k, iron) {
				if e := magnet.Verify(k, first, second, iron, c); e != api.OK {
					t.Fatalf("Verify(%v, %v, %v, %v, %v) = %d", k, first, second, iron, c, e)
				}
			}
		}
	}
	if above < 10 {
		t.Errorf("only %d bundles pull by more than the greatest pull of a kit", above)
	}
}

// P6.4, P6.11, G3: the best choices against all vectors that are rests.
func TestBestAgainstDefinition(t *testing.T) {
	d := dice{3}
	count := [5]int{}
	for range 6000 {
		k, iron := d.both()
		want, square := trueBest(k, iron)
		got := best(t, k, iron)
		one, rest, e := magnet.Best(k, iron)
		if !slices.Equal(got, want) || one != want[0] || rest != add(iron, pull(k, one)) || size(rest) != square || e != api.OK {
			t.Fatalf("All(%v, %v) = %v, Best %v %v %d, want %v with %d", k, iron, got, one, rest, e, want, square)
		}
		count[len(got)]++
	}
	for n := 1; n < len(count); n++ {
		if count[n] < 20 {
			t.Errorf("too few of one kind: %v", count)
		}
	}
}

// P6.11: choices around the best ones leave more, also of great pulls.
func TestNothingBetter(t *testing.T) {
	d := dice{4}
	for range 1500 {
		k := d.even(magnet.MaxPull)
		iron := d.iron(k)
		all := best(t, k, iron)
		square := least(t, k, iron)
		first, second, _ := bundlesOf(t, k)
		for range 60 {
			n, m := d.roll(-3, 3), d.roll(-3, 3)
			c := choice(all[0].I+n*first.I+m*second.I, all[0].J+n*first.J+m*second.J)
			left := size(add(iron, pull(k, c)))
			if left < square || (left == square) != slices.Contains(all, c) {
				t.Fatalf("All(%v, %v) = %v leave %d, but %v leaves %d", k, iron, all, square, c, left)
			}
		}
	}
}

// P6.2: rests of choices of all sizes.
func TestRestAgainstDefinition(t *testing.T) {
	d := dice{5}
	for range 3000 {
		k := d.even(d.pick(5, magnet.MaxPull))
		iron, most := d.vector(magnet.MaxIron), d.pick(3, 1000, magnet.MaxChoice)
		c := choice(d.roll(-most, most), d.roll(-most, most))
		if got, e := magnet.Rest(k, iron, c); got != add(iron, pull(k, c)) || e != api.OK {
			t.Fatalf("Rest(%v, %v, %v) = %v %d", k, iron, c, got, e)
		}
	}
}

// trueVerify returns what Verify should return, without errors of range.
func trueVerify(k magnet.Kit, first, second magnet.Choice, iron magnet.Vector, c magnet.Choice) api.Errno {
	if !trueOrder(k, first, second) {
		return api.ErrOrder
	}
	if all, _ := trueBest(k, iron); !slices.Contains(all, c) {
		return api.ErrProof
	}
	return api.OK
}

// P6.5, G4: bundles and choices that are right, or nearly so.
func TestVerifyAgainstDefinition(t *testing.T) {
	d := dice{6}
	count := map[api.Errno]int{}
	for range 6000 {
		k, iron := d.both()
		first, second, reduced := bundlesOf(t, k)
		_, one, other := d.bundled(reduced, d.pick(0, 0, 1, 2))
		a := choice(one.I*first.I+one.J*second.I, one.I*first.J+one.J*second.J)
		b := choice(other.I*first.I+other.J*second.I, other.I*first.J+other.J*second.J)
		if d.roll(0, 9) == 0 {
			a.I *= 2
			a.J *= 2
		}
		all, _ := trueBest(k, iron)
		c := all[d.roll(0, len(all)-1)]
		if d.roll(0, 1) == 0 {
			n, m := d.roll(-1, 1), d.roll(-1, 1)
			c = choice(c.I+n*first.I+m*second.I, c.J+n*first.J+m*second.J)
		}
		e := magnet.Verify(k, a, b, iron, c)
		if want := trueVerify(k, a, b, iron, c); e != want {
			t.Fatalf("Verify(%v, %v, %v, %v, %v) = %d, want %d", k, a, b, iron, c, e, want)
		}
		count[e]++
	}
	for _, e := range []api.Errno{api.OK, api.ErrOrder, api.ErrProof} {
		if count[e] < 500 {
			t.Errorf("too few of one kind: %v", count)
		}
	}
}

// partner returns a choice that makes complete bundles with another one whose numbers have no divisor in common.
func partner(c magnet.Choice) (magnet.Choice, bool) {
	var x, y big.Int
	n := new(big.Int).GCD(&x, &y, number(c.I), number(c.J))
	return choice(int(-y.Int64()), int(x.Int64())), n.Cmp(number(1)) == 0
}

// P6.5, R5: complete bundles of great numbers, whose squares have more than 64 bits.
func TestVerifyGreatBundles(t *testing.T) {
	d := dice{7}
	count := 0
	for range 20000 {
		k := d.even(magnet.MaxPull)
		most := d.pick(2000, 3000000, magnet.MaxChoice)
		first := choice(d.roll(1, most), d.roll(1, most))
		second, ok := partner(first)
		if !ok || trueOrder(k, first, second) {
			continue
		}
		count++
		iron := d.vector(magnet.MaxIron)
		a := magnet.Verify(k, first, second, iron, choice(0, 0))
		b := magnet.Verify(k, second, first, iron, choice(0, 0))
		if a != api.ErrOrder || b != api.ErrOrder && !trueOrder(k, second, first) {
			t.Fatalf("Verify(%v, %v, %v) = %d, and in the other order %d", k, first, second, a, b)
		}
	}
	if count < 5000 {
		t.Errorf("only %d", count)
	}
}

// P6.5: choices of great numbers, whose rests have squares above 64 bits.
func TestVerifyGreatChoices(t *testing.T) {
	d := dice{8}
	for range 5000 {
		k := d.even(magnet.MaxPull)
		first, second, _ := bundlesOf(t, k)
		iron, most := d.vector(magnet.MaxIron), magnet.MaxChoice
		c := choice(d.pick(-most, most, d.roll(-most, most)), d.pick(-most, most, d.roll(-most, most)))
		if slices.Contains(best(t, k, iron), c) {
			continue
		}
		if e := magnet.Verify(k, first, second, iron, c); e != api.ErrProof {
			t.Fatalf("Verify(%v, %v, %v, %v, %v) = %d", k, first, second, iron, c, e)
		}
	}
}

// P6.6: counts against all vectors that are rests, at most up to the greatest square that is allowed.
func TestWithinAgainstDefinition(t *testing.T) {
	d := dice{9}
	for range 2500 {
		k := d.kit()
		iron, over := d.iron(k), 2000*area(k)
		most := min(over, d.pick(0, 1, 9, 200, d.roll(0, 20000), 6000))
		got, e := magnet.Within(k, iron, most)
		if want := len(inside(k, iron, most)); got != want || e != api.OK {
			t.Fatalf("Within(%v, %v, %d) = %d %d, want %d", k, iron, most, got, e, want)
		}
		_, a := magnet.Within(k, iron, over)
		n, b := magnet.Within(k, iron, over+1)
		if a != api.OK || n != 0 || b != api.ErrOver {
			t.Fatalf("Within(%v, %v, %d) %d, and of 1 more %d %d", k, iron, over, a, n, b)
		}
	}
}

// P6.6: counts of a kit whose rows are long, and at the greatest squares.
func TestWithinLongRows(t *testing.T) {
	d := dice{10}
	for range 20 {
		k := kit(1, 0, d.roll(-3, 3), d.roll(900, 1000))
		if d.roll(0, 1) == 0 {
			k = magnet.Kit{A: k.B, B: k.A}
		}
		iron, most := d.vector(magnet.MaxIron), d.pick(2000*area(k), 900000)
		if got, e := magnet.Within(k, iron, most); got != len(inside(k, iron, most)) || e != api.OK {
			t.Fatalf("Within(%v, %v, %d) = %d %d", k, iron, most, got, e)
		}
	}
	for range 20 {
		k := kit(d.roll(600, 1000), d.roll(-200, 200), d.roll(-200, 200), d.roll(900, 1000))
		first, second, _ := bundlesOf(t, k)
		iron := d.vector(magnet.MaxIron)
		one, _, _ := magnet.Best(k, iron)
		want := 0
		for n := -60; n <= 60; n++ {
			for m := -60; m <= 60; m++ {
				c := choice(one.I+n*first.I+m*second.I, one.J+n*first.J+m*second.J)
				if size(add(iron, pull(k, c))) <= magnet.MaxSquare {
					want++
				}
			}
		}
		if got, e := magnet.Within(k, iron, magnet.MaxSquare); got != want || e != api.OK {
			t.Fatalf("Within(%v, %v) = %d %d, want %d", k, iron, got, e, want)
		}
	}
}

// P6.7, P6.12: a kit and the kit of complete bundles have the same area, the same smallest squares and the same counts.
func TestCompleteBundles(t *testing.T) {
	d := dice{11}
	for range 4000 {
		k := d.even(d.pick(2, 12, 100, 1000))
		other, first, second := d.bundled(k, d.roll(1, 6))
		a, e := magnet.Shortest(k)
		b, f := magnet.Shortest(other)
		if area(k) != area(other) || a != b || e != api.OK || f != api.OK {
			t.Fatalf("%v and %v: areas %d and %d, Shortest %d %d and %d %d", k, other, area(k), area(other), a, e, b, f)
		}
		iron, square := d.iron(k), d.roll(0, min(magnet.MaxSquare, 2000*area(k)))
		if least(t, k, iron) != least(t, other, iron) {
			t.Fatalf("%v and %v leave %d and %d of %v", k, other, least(t, k, iron), least(t, other, iron), iron)
		}
		x, e := magnet.Within(k, iron, square)
		y, f := magnet.Within(other, iron, square)
		if x != y || e != api.OK || f != api.OK {
			t.Fatalf("Within(%v, %v, %d) = %d %d, of %v %d %d", k, iron, square, x, e, other, y, f)
		}
		for _, c := range best(t, other, iron) {
			same := choice(c.I*first.I+c.J*second.I, c.I*first.J+c.J*second.J)
			if !slices.Contains(best(t, k, iron), same) {
				t.Fatalf("All(%v, %v) = %v, but not %v of %v", k, iron, best(t, k, iron), c, other)
			}
		}
	}
}

// P6.7, P6.10: bounds of reduced kits, and of what is left.
func TestBounds(t *testing.T) {
	d := dice{12}
	tight := 0
	for range 6000 {
		k := d.even(d.pick(3, 30, magnet.MaxPull))
		_, _, r := bundlesOf(t, k)
		a, b := size(r.A), size(r.B)
		shortest, e := magnet.Shortest(k)
		if shortest != a || e != api.OK || 3*a*b > 4*area(k)*area(k) {
			t.Fatalf("%v: Shortest %d %d, of the bundles %d and %d, area %d", k, shortest, e, a, b, area(k))
		}
		if reduced, e := magnet.Reduced(k); e != api.OK || reduced && size(k.A) != shortest {
			t.Fatalf("Reduced(%v) = %v %d, Shortest %d", k, reduced, e, shortest)
		}
		left := least(t, k, d.iron(k))
		if 4*left > a+b {
			t.Fatalf("%v, bundles pull by %v, and %d is left", k, r, left)
		}
		if 4*left == a+b {
			tight++
		}
	}
	if tight < 20 {
		t.Errorf("only %d times as much as possible is left", tight)
	}
}

// six returns the vectors of the certificate.
func six(k magnet.Kit) []magnet.Vector {
	c := add(k.A, k.B)
	if product(k.A, k.B) > 0 {
		c = vector(k.A.X-k.B.X, k.A.Y-k.B.Y)
	}
	var out []magnet.Vector
	for _, v := range []magnet.Vector{k.A, k.B, c} {
		out = append(out, v, vector(-v.X, -v.Y))
	}
	return out
}

// P6.8, G4: the certificate holds just for the best choices, whichever reduced bundles are taken.
func TestCertificate(t *testing.T) {
	d := dice{13}
	count := [2]int{}
	for range 3000 {
		k, iron := d.both()
		first, second, r := bundlesOf(t, k)
		if d.roll(0, 1) == 0 {
			first, r.A = choice(-first.I, -first.J), vector(-r.A.X, -r.A.Y)
		}
		all, _ := trueBest(k, iron)
		for n := -2; n <= 2; n++ {
			for m := -2; m <= 2; m++ {
				c := choice(all[0].I+n*first.I+m*second.I, all[0].J+n*first.J+m*second.J)
				rest, holds := add(iron, pull(k, c)), true
				for _, v := range six(r) {
					twice := 2 * product(rest, v)
					holds = holds && max(twice, -twice) <= size(v)
				}
				e := magnet.Verify(k, first, second, iron, c)
				if isBest := slices.Contains(all, c); holds != isBest || (e == api.OK) != isBest {
					t.Fatalf("%v, %v, %v: the certificate holds %v, Verify %d, All %v", k, iron, c, holds, e, all)
				}
				if holds {
					count[0]++
				} else {
					count[1]++
				}
			}
		}
	}
	if count[0] < 3000 || count[1] < 3000 {
		t.Errorf("too few of one kind: %v", count)
	}
}

// changed returns choices to each of which something is done, in their order.
func changed(l []magnet.Choice, do func(magnet.Choice) magnet.Choice) []magnet.Choice {
	var out []magnet.Choice
	for _, c := range l {
		out = append(out, do(c))
	}
	slices.SortFunc(out, before)
	return out
}

// rests returns what choices leave, in one order for all lists.
func rests(k magnet.Kit, iron magnet.Vector, l []magnet.Choice) []magnet.Vector {
	var out []magnet.Vector
	for _, c := range l {
		out = append(out, add(iron, pull(k, c)))
	}
	slices.SortFunc(out, func(a, b magnet.Vector) int { return before(choice(a.X, a.Y), choice(b.X, b.Y)) })
	return out
}

// P6.9, G5: an iron to which a pull is added, a negated one, and kinds of magnets in the other order.
func TestShifts(t *testing.T) {
	d := dice{14}
	shifted := 0
	for range 4000 {
		k, iron := d.both()
		by := choice(d.roll(-99, 99), d.roll(-99, 99))
		all := best(t, k, iron)
		if more := add(iron, pull(k, by)); allowed(more) {
			shifted++
			want := changed(all, func(c magnet.Choice) magnet.Choice { return choice(c.I-by.I, c.J-by.J) })
			if got := best(t, k, more); !slices.Equal(got, want) || !slices.Equal(rests(k, iron, all), rests(k, more, got)) {
				t.Fatalf("All(%v, %v) = %v, with the pull of %v more %v", k, iron, all, by, got)
			}
		}
		want := changed(all, func(c magnet.Choice) magnet.Choice { return choice(-c.I, -c.J) })
		if got := best(t, k, vector(-iron.X, -iron.Y)); !slices.Equal(got, want) {
			t.Fatalf("All(%v, %v) = %v, negated %v", k, iron, all, got)
		}
		want = changed(all, func(c magnet.Choice) magnet.Choice { return choice(c.J, c.I) })
		if got := best(t, magnet.Kit{A: k.B, B: k.A}, iron); !slices.Equal(got, want) {
			t.Fatalf("All(%v, %v) = %v, in the other order %v", k, iron, all, got)
		}
	}
	if shifted < 1000 {
		t.Errorf("only %d shifts", shifted)
	}
}

// P6.9, G5: kit and iron are turned by a right angle, or mirrored.
func TestTurnsAndMirrors(t *testing.T) {
	d := dice{15}
	turns := []func(magnet.Vector) magnet.Vector{
		func(v magnet.Vector) magnet.Vector { return vector(-v.Y, v.X) },
		func(v magnet.Vector) magnet.Vector { return vector(v.Y, -v.X) },
		func(v magnet.Vector) magnet.Vector { return vector(-v.X, v.Y) },
		func(v magnet.Vector) magnet.Vector { return vector(v.X, -v.Y) },
		func(v magnet.Vector) magnet.Vector { return vector(v.Y, v.X) },
	}
	for range 2000 {
		k, iron := d.both()
		square := d.roll(0, 2000*area(k))
		all, rest := best(t, k, iron), least(t, k, iron)
		count, _ := magnet.Within(k, iron, square)
		shortest, _ := magnet.Shortest(k)
		reduced, _ := magnet.Reduced(k)
		for i, turn := range turns {
			other, to := magnet.Kit{A: turn(k.A), B: turn(k.B)}, turn(iron)
			a, e := magnet.Within(other, to, square)
			b, f := magnet.Shortest(other)
			c, g := magnet.Reduced(other)
			if got := best(t, other, to); !slices.Equal(got, all) || least(t, other, to) != rest || a != count || e != api.OK || b != shortest || f != api.OK || c != reduced || g != api.OK {
				t.Fatalf("turn %d of %v, %v: All %v, before %v, Within %d %d, before %d, Shortest %d %d, Reduced %v %d", i, k, iron, got, all, a, e, count, b, f, c, g)
			}
		}
	}
}

// P6.12: nothing below the smallest square, at it the best choices, and with greater squares no fewer.
func TestCounts(t *testing.T) {
	d := dice{16}
	for range 2000 {
		k := d.even(d.pick(3, 30, magnet.MaxPull))
		iron := d.iron(k)
		all, square, over := best(t, k, iron), least(t, k, iron), min(magnet.MaxSquare, 2000*area(k))
		if n, e := magnet.Within(k, iron, square); n != len(all) || e != api.OK {
			t.Fatalf("Within(%v, %v, %d) = %d %d, All %v", k, iron, square, n, e, all)
		}
		if square > 0 {
			if n, e := magnet.Within(k, iron, square-1); n != 0 || e != api.OK {
				t.Fatalf("Within(%v, %v, %d) = %d %d", k, iron, square-1, n, e)
			}
		}
		before := 0
		for at := 0; at <= over; at += d.roll(1, 1+over/20) {
			n, e := magnet.Within(k, iron, at)
			if n < before || (n == 0) != (at < square) || e != api.OK {
				t.Fatalf("Within(%v, %v, %d) = %d %d, before %d", k, iron, at, n, e, before)
			}
			before = n
		}
	}
}
