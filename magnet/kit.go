package magnet

import (
	"cmp"
	"slices"
)

// bundles are two choices, with their pulls as their kit.
type bundles struct {
	Kit
	first, second Choice
}

func (c Choice) compare(d Choice) int {
	return cmp.Or(cmp.Compare(c.I, d.I), cmp.Compare(c.J, d.J))
}

// less returns a choice without so many times another one.
func (c Choice) less(n int, d Choice) Choice { return Choice{c.I - n*d.I, c.J - n*d.J} }

func (k Kit) pull(c Choice) Vector { return k.A.times(c.I).plus(k.B.times(c.J)) }

func (k Kit) rest(iron Vector, c Choice) Vector { return iron.plus(k.pull(c)) }

// choice returns the choice that leaves a rest.
func (k Kit) choice(iron, rest Vector) Choice {
	pull, area := rest.minus(iron), k.A.turn(k.B)
	return Choice{pull.turn(k.B) / area, k.A.turn(pull) / area}
}

func (k Kit) reduced() bool {
	a, p := k.A.square(), k.A.product(k.B)
	return a <= k.B.square() && 2*max(p, -p) <= a
}

func (k Kit) bundle(first, second Choice) bundles {
	return bundles{Kit{k.pull(first), k.pull(second)}, first, second}
}

func (b bundles) complete() bool {
	n := b.first.I*b.second.J - b.first.J*b.second.I
	return n == 1 || n == -1
}

// short reports whether pulls are no longer than those of complete bundles with a reduced
// kit can be: these are at most as long as the longer one of the pulls of the magnets. The
// squares of longer ones could exceed 64 bits.
func (b bundles) short() bool { return b.A.upTo(2*MaxPull) && b.B.upTo(2*MaxPull) }

// reduce returns complete bundles whose kit is reduced.
func (k Kit) reduce() bundles {
	b := k.bundle(Choice{1, 0}, Choice{0, 1})
	for !b.reduced() {
		n := nearest(Vector.product, b.A, b.B, b.A)
		b = k.bundle(b.first, b.second.less(n, b.first))
		if b.A.square() > b.B.square() {
			b = k.bundle(b.second, b.first)
		}
	}
	return b
}

// six returns the vectors of the certificate, of a reduced kit: as long as no step along
// one of them shortens a rest, no pull at all shortens it.
func (k Kit) six() [6]Vector {
	third := k.A.plus(k.B)
	if k.A.product(k.B) > 0 {
		third = k.A.minus(k.B)
	}
	return [6]Vector{k.A, k.A.times(-1), k.B, k.B.times(-1), third, third.times(-1)}
}

// proves reports whether the certificate holds for a rest.
func (k Kit) proves(rest Vector) bool {
	for _, v := range k.six() {
		if rest.past(v) > 0 {
			return false
		}
	}
	return true
}

// least returns a rest with the smallest square, of a reduced kit. The first one that is
// tried is so near that only a few steps follow.
func (k Kit) least(iron Vector) Vector {
	rest := iron.minus(k.B.times(nearest(Vector.turn, k.A, iron, k.B)))
	rest = rest.minus(k.A.times(nearest(Vector.product, k.A, rest, k.A)))
	six := k.six()
search:
	for {
		for _, v := range six {
			if rest.past(v) > 0 {
				rest = rest.minus(v)
				continue search
			}
		}
		return rest
	}
}

// best returns all best choices in their order. From each of them steps that keep the
// square lead to others, and so to all of them.
func (k Kit) best(iron Vector) []Choice {
	b := k.reduce()
	best := []Choice{k.choice(iron, b.least(iron))}
	for n := 0; n < len(best); n++ {
		rest := k.rest(iron, best[n])
		for _, v := range b.six() {
			other := k.choice(iron, rest.minus(v))
			if rest.past(v) == 0 && !slices.Contains(best, other) {
				best = append(best, other)
			}
		}
	}
	slices.SortFunc(best, Choice.compare)
	return best
}
