package keys

import (
	"iter"
	"slices"
)

func (c Case) contrary() Case { return Case{c.Thing, !c.Is} }

func (c Case) isTrue(values []bool) bool { return values[c.Thing] == c.Is }

func areTrue(values []bool, cases ...Case) bool {
	for _, c := range cases {
		if !c.isTrue(values) {
			return false
		}
	}
	return true
}

// broken yields the indices of the rules that do not hold with values.
func (b Book) broken(values []bool) iter.Seq[int] {
	return func(yield func(int) bool) {
	rules:
		for i, r := range b.Rules {
			for _, c := range [2]Case{r.A, r.B} {
				if c.isTrue(values) {
					continue rules
				}
			}
			if !yield(i) {
				return
			}
		}
	}
}

func (b Book) isTruth(values []bool) bool {
	for range b.broken(values) {
		return false
	}
	return true
}

// combinations yields all values of the things. It is one list, which changes from one to the next.
func (b Book) combinations() iter.Seq[[]bool] {
	return func(yield func([]bool) bool) {
		values := make([]bool, b.Things)
		for n := range 1 << b.Things {
			for thing := range values {
				values[thing] = n>>thing&1 == 1
			}
			if !yield(values) {
				return
			}
		}
	}
}

// after yields the cases that can follow a case in a chain.
func (b Book) after(x Case) iter.Seq[Case] {
	return func(yield func(Case) bool) {
		not := x.contrary()
		for _, r := range b.Rules {
			if r.A == not && !yield(r.B) || r.B == not && !yield(r.A) {
				return
			}
		}
	}
}

// without returns a book without one of its rules.
func (b Book) without(rule int) Book {
	return Book{b.Things, slices.Concat(b.Rules[:rule], b.Rules[rule+1:])}
}
