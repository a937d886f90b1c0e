package neutral

import (
	"iter"
	"slices"

	"agonic/api"
)

func (p polynomial) chain() []polynomial {
	core := p.core()
	return core.before(core.derivative().lean())
}

// before returns the elements of a chain from p on, of which the second one is next.
func (p polynomial) before(next polynomial) []polynomial {
	if p.isConstant() {
		return grown(p)
	}
	_, rest := p.divide(next)
	return grown(p, next.before(rest.times(-1))...)
}

// grown returns a chain with one more element at its beginning.
func grown(first polynomial, chain ...polynomial) []polynomial {
	return append([]polynomial{first}, chain...)
}

// down yields p, what step makes of it, what step makes of this, and so on up to a constant.
func (p polynomial) down(step func(polynomial) polynomial) iter.Seq[polynomial] {
	return func(yield func(polynomial) bool) {
		for q := p; yield(q) && !q.isConstant(); {
			q = step(q)
		}
	}
}

// changes returns how often an element differs from the one before it, if zeros are left out.
func changes[T comparable](elements iter.Seq[T]) int {
	var zero, before T
	count := 0
	for element := range elements {
		if element == zero {
			continue
		}
		if before != zero && element != before {
			count++
		}
		before = element
	}
	return count
}

// changesAt returns the changes of polynomials at x.
func changesAt(polynomials iter.Seq[polynomial], x api.Ratio) int {
	return changes(func(yield func(int) bool) {
		for p := range polynomials {
			if !yield(p.sign(x)) {
				return
			}
		}
	})
}

// lost returns how many changes of polynomials there are less at b than at a.
func lost(polynomials iter.Seq[polynomial], a, b api.Ratio) int {
	return changesAt(polynomials, a) - changesAt(polynomials, b)
}

// count returns the number of roots that are greater than a, and at most b: where the
// first element of the chain becomes 0, one change is lost, and nowhere else.
func (p polynomial) count(a, b api.Ratio) int { return lost(slices.Values(p.chain()), a, b) }
