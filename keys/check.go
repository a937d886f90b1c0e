package keys

import "agonic/api"

// has reports whether the things of all these cases are things of the book.
func (b Book) has(cases ...Case) bool {
	for _, c := range cases {
		if c.Thing < 0 || c.Thing >= b.Things {
			return false
		}
	}
	return true
}

// checkGiven returns the error of a book and of given cases.
func checkGiven(b Book, given []Case) api.Errno {
	if e := Check(b); e != api.OK {
		return e
	}
	if len(given) > MaxGiven {
		return api.ErrMany
	}
	if !b.has(given...) {
		return api.ErrNone
	}
	return api.OK
}

// areNeighbours reports whether each two neighbours of a chain belong to a rule.
func (b Book) areNeighbours(chain []Case) bool {
	for i, y := range chain[1:] {
		if !b.follows(chain[i], y) {
			return false
		}
	}
	return true
}

func (b Book) follows(x, y Case) bool {
	for z := range b.after(x) {
		if z == y {
			return true
		}
	}
	return false
}
