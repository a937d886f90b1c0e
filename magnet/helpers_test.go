package magnet_test

import (
	"math/big"
	"slices"
	"testing"

	"agonic/api"
	"agonic/magnet"
)

func list(l ...int) []int { return l }

func vector(x, y int) magnet.Vector { return magnet.Vector{X: x, Y: y} }

func kit(ax, ay, bx, by int) magnet.Kit { return magnet.Kit{A: vector(ax, ay), B: vector(bx, by)} }

func choice(i, j int) magnet.Choice { return magnet.Choice{I: i, J: j} }

// choices returns a list: I and J in turn.
func choices(l ...int) []magnet.Choice {
	var out []magnet.Choice
	for i := 0; i+1 < len(l); i += 2 {
		out = append(out, choice(l[i], l[i+1]))
	}
	return out
}

// skew and square are K and L of the chapter's examples, and flat, wide are kits with errors.
func skew() magnet.Kit { return kit(3, 0, 10, 1) }

func square() magnet.Kit { return kit(2, 0, 0, 2) }

func flat() magnet.Kit { return kit(1, 2, -2, -4) }

func wide() magnet.Kit { return kit(1001, 0, 0, 1) }

// dice yields the same numbers in every run.
type dice struct{ state uint64 }

// roll returns a number from a to b.
func (d *dice) roll(a, b int) int {
	d.state = d.state*6364136223846793005 + 1442695040888963407
	return a + int(d.state>>33)%(b-a+1)
}

func (d *dice) pick(l ...int) int { return l[d.roll(0, len(l)-1)] }

func (d *dice) vector(most int) magnet.Vector {
	return vector(d.roll(-most, most), d.roll(-most, most))
}

// even returns a kit with short pulls, often with some that have one length, or a product of 0 or of half a square.
func (d *dice) even(most int) magnet.Kit {
	for {
		a, b := d.vector(most), d.vector(most)
		switch d.roll(0, 5) {
		case 0:
			b = vector(-a.Y, a.X)
		case 1:
			n := d.roll(-3, 3)
			b = vector(n*a.Y, -n*a.X)
		case 2:
			a = vector(2*(a.X/2), 2*(a.Y/2))
			b = vector(a.X/2-a.Y, a.Y/2+a.X)
		case 3:
			b = vector(a.Y, a.X)
		}
		if k := (magnet.Kit{A: a, B: b}); magnet.Check(k) == api.OK {
			return k
		}
	}
}

// bundled returns the kit of complete bundles, and these, as long as pulls and numbers are small.
func (d *dice) bundled(k magnet.Kit, changes int) (magnet.Kit, magnet.Choice, magnet.Choice) {
	first, second := choice(1, 0), choice(0, 1)
	out := k
	for range changes {
		a, b := first, second
		switch n := d.roll(-4, 4); d.roll(0, 2) {
		case 0:
			b = choice(b.I+n*a.I, b.J+n*a.J)
		case 1:
			a = choice(a.I+n*b.I, a.J+n*b.J)
		default:
			a, b = b, choice(-a.I, -a.J)
		}
		if next := (magnet.Kit{A: pull(k, a), B: pull(k, b)}); magnet.Check(next) == api.OK {
			out, first, second = next, a, b
		}
	}
	return out, first, second
}

// kit returns a kit whose pulls are short after it is reduced, but often not before.
func (d *dice) kit() magnet.Kit {
	k, _, _ := d.bundled(d.even(d.pick(1, 2, 5, 12, 30)), d.pick(0, 1, 3, 8))
	return k
}

// iron returns an iron that is often half a pull, so that several choices are best.
func (d *dice) iron(k magnet.Kit) magnet.Vector {
	for {
		v := pull(k, choice(d.roll(-9, 9), d.roll(-9, 9)))
		switch d.roll(0, 3) {
		case 0:
			v = d.vector(d.pick(5, 300, magnet.MaxIron))
		case 1:
			v = add(v, d.vector(3))
		case 2:
			v = vector(v.X/2, v.Y/2)
		}
		if allowed(v) {
			return v
		}
	}
}

// around returns a kit and an iron of which three rests have one square: often more choices than two are best.
func (d *dice) around() (magnet.Kit, magnet.Vector) {
	square := d.pick(25, 50, 65, 85, 125, 325)
	var rests []magnet.Vector
	for x := -18; x <= 18; x++ {
		for y := -18; y <= 18; y++ {
			if x*x+y*y == square {
				rests = append(rests, vector(x, y))
			}
		}
	}
	for {
		iron, a, b := rests[d.roll(0, len(rests)-1)], rests[d.roll(0, len(rests)-1)], rests[d.roll(0, len(rests)-1)]
		k := kit(a.X-iron.X, a.Y-iron.Y, b.X-iron.X, b.Y-iron.Y)
		if magnet.Check(k) == api.OK {
			k, _, _ = d.bundled(k, d.pick(0, 1, 3))
			return k, add(iron, pull(k, choice(d.roll(-3, 3), d.roll(-3, 3))))
		}
	}
}

// both returns a kit and an iron of any kind.
func (d *dice) both() (magnet.Kit, magnet.Vector) {
	if k, iron := d.around(); d.roll(0, 3) == 0 && allowed(iron) {
		return k, iron
	}
	k := d.kit()
	return k, d.iron(k)
}

func allowed(v magnet.Vector) bool {
	return max(v.X, -v.X) <= magnet.MaxIron && max(v.Y, -v.Y) <= magnet.MaxIron
}

func add(a, b magnet.Vector) magnet.Vector { return vector(a.X+b.X, a.Y+b.Y) }

func product(a, b magnet.Vector) int { return a.X*b.X + a.Y*b.Y }

func size(a magnet.Vector) int { return product(a, a) }

func signed(a, b magnet.Vector) int { return a.X*b.Y - a.Y*b.X }

func area(k magnet.Kit) int { return max(signed(k.A, k.B), -signed(k.A, k.B)) }

// pull returns the vector by which a choice pulls.
func pull(k magnet.Kit, c magnet.Choice) magnet.Vector {
	return vector(c.I*k.A.X+c.J*k.B.X, c.I*k.A.Y+c.J*k.B.Y)
}

// solve returns the choice that pulls by a vector, if there is one.
func solve(k magnet.Kit, v magnet.Vector) (magnet.Choice, bool) {
	d := signed(k.A, k.B)
	i, j := signed(v, k.B), signed(k.A, v)
	return choice(i/d, j/d), i%d == 0 && j%d == 0
}

// inside returns all choices whose rest has a square of at most so much: it tries all vectors as rests.
func inside(k magnet.Kit, iron magnet.Vector, most int) []magnet.Choice {
	var out []magnet.Choice
	for x := 0; x*x <= most; x++ {
		for y := 0; x*x+y*y <= most; y++ {
			seen := map[magnet.Vector]bool{}
			for _, v := range []magnet.Vector{vector(x, y), vector(-x, y), vector(x, -y), vector(-x, -y)} {
				c, ok := solve(k, vector(v.X-iron.X, v.Y-iron.Y))
				if ok && !seen[v] {
					out = append(out, c)
				}
				seen[v] = true
			}
		}
	}
	slices.SortFunc(out, before)
	return out
}

func before(a, b magnet.Choice) int {
	if a.I != b.I {
		return a.I - b.I
	}
	return a.J - b.J
}

// trueBest returns all best choices, and the smallest square: it tries greater and greater squares.
func trueBest(k magnet.Kit, iron magnet.Vector) ([]magnet.Choice, int) {
	most := 4
	for len(inside(k, iron, most)) == 0 {
		most *= 2
	}
	least := most
	for _, c := range inside(k, iron, most) {
		least = min(least, size(add(iron, pull(k, c))))
	}
	return inside(k, iron, least), least
}

// trueShortest returns the smallest square of a pull other than that of 0, 0.
func trueShortest(k magnet.Kit) int {
	least := min(size(k.A), size(k.B))
	for _, c := range inside(k, vector(0, 0), least) {
		if c != choice(0, 0) {
			least = min(least, size(pull(k, c)))
		}
	}
	return least
}

// large is a vector whose coordinates can have any size.
type large struct{ x, y *big.Int }

func number(n int) *big.Int { return big.NewInt(int64(n)) }

func sum(a, b *big.Int) *big.Int { return new(big.Int).Add(a, b) }

func times(a, b *big.Int) *big.Int { return new(big.Int).Mul(a, b) }

func (a large) product(b large) *big.Int { return sum(times(a.x, b.x), times(a.y, b.y)) }

// largePull returns the vector by which a choice of any size pulls.
func largePull(k magnet.Kit, c magnet.Choice) large {
	i, j := number(c.I), number(c.J)
	return large{
		sum(times(i, number(k.A.X)), times(j, number(k.B.X))),
		sum(times(i, number(k.A.Y)), times(j, number(k.B.Y))),
	}
}

// trueOrder reports whether bundles are complete and their kit is reduced.
func trueOrder(k magnet.Kit, first, second magnet.Choice) bool {
	n := new(big.Int).Sub(times(number(first.I), number(second.J)), times(number(first.J), number(second.I)))
	a, b := largePull(k, first), largePull(k, second)
	twice := times(number(2), a.product(b))
	return n.CmpAbs(number(1)) == 0 && a.product(a).Cmp(b.product(b)) <= 0 && twice.CmpAbs(a.product(a)) <= 0
}

// best returns what All returns, and expects no error.
func best(t *testing.T, k magnet.Kit, iron magnet.Vector) []magnet.Choice {
	t.Helper()
	all, e := magnet.All(k, iron)
	if e != api.OK || len(all) == 0 {
		t.Fatalf("All(%v, %v) = %v %d", k, iron, all, e)
	}
	return all
}

// least returns the square of what Best leaves, and expects no error.
func least(t *testing.T, k magnet.Kit, iron magnet.Vector) int {
	t.Helper()
	_, rest, e := magnet.Best(k, iron)
	if e != api.OK {
		t.Fatalf("Best(%v, %v): %d", k, iron, e)
	}
	return size(rest)
}

// bundlesOf returns what Reduce returns, with the kit of these bundles, and expects no error.
func bundlesOf(t *testing.T, k magnet.Kit) (first, second magnet.Choice, reduced magnet.Kit) {
	t.Helper()
	first, second, e := magnet.Reduce(k)
	if e != api.OK {
		t.Fatalf("Reduce(%v): %d", k, e)
	}
	return first, second, magnet.Kit{A: pull(k, first), B: pull(k, second)}
}
