package keys

import (
	"slices"

	"agonic/api"
)

// search finds out what follows in a book from given cases.
type search struct {
	book  Book
	given []Case
	// before has, for each case that was reached, the one before it in its chain. A case
	// where the search began is before itself.
	before map[Case]Case
}

func newSearch(b Book, given ...Case) *search {
	return &search{b, slices.Clone(given), map[Case]Case{}}
}

// agreeing returns a search with given cases with which some truth agrees.
func agreeing(b Book, given []Case) (*search, api.Errno) {
	if e := checkGiven(b, given); e != api.OK {
		return nil, e
	}
	s := newSearch(b, given...)
	if !s.hasTruth() {
		return nil, api.ErrClash
	}
	return s, api.OK
}

// reach finds all cases to which chains lead from some cases, by the shortest chains.
func (s *search) reach(from ...Case) {
	clear(s.before)
	var queue []Case
	visit := func(y, x Case) {
		if !s.isReached(y) {
			s.before[y] = x
			queue = append(queue, y)
		}
	}
	for _, x := range from {
		visit(x, x)
	}
	for i := 0; i < len(queue); i++ {
		x := queue[i]
		for y := range s.book.after(x) {
			visit(y, x)
		}
	}
}

func (s *search) isReached(c Case) bool {
	_, ok := s.before[c]
	return ok
}

// chain returns a shortest chain from one case to another one, or none.
func (s *search) chain(from, to Case) []Case {
	s.reach(from)
	if !s.isReached(to) {
		return nil
	}
	chain := []Case{to}
	for x := to; x != from; {
		x = s.before[x]
		chain = append(chain, x)
	}
	slices.Reverse(chain)
	return chain
}

// clash returns a chain from a case to its contrary, and one back, or none.
func (s *search) clash() (there, back []Case) {
	for thing := range s.book.Things {
		not, so := Case{thing, false}, Case{thing, true}
		there = s.chain(not, so)
		if len(there) == 0 {
			continue
		}
		back = s.chain(so, not)
		if len(back) > 0 {
			return there, back
		}
	}
	return nil, nil
}

// hasTruth reports whether some truth agrees with the given cases and with more.
func (s *search) hasTruth(more ...Case) bool {
	if !s.agrees(more...) {
		return false
	}
	there, _ := s.clash()
	return len(there) == 0
}

// agrees reports whether some truth of a possible book agrees with the given cases and
// with more: whether no chain leads from one of them to the contrary of one of them.
func (s *search) agrees(more ...Case) bool {
	given := slices.Concat(s.given, more)
	s.reach(given...)
	return !slices.ContainsFunc(given, func(c Case) bool { return s.isReached(c.contrary()) })
}
