package logbook

import "agonic/api"

// told is what a kept line tells.
type told interface {
	check(b *Book) api.Errno // the error of a book in which it cannot be done
	do(b *Book)
	undo(b *Book) // undoes what was done last, but for the serials, which are taken back for all
}

// issued returns how many parts got serials when something was told: what gave none can be
// undone without a trace in the serials.
func issued(t told) int {
	switch t.(type) {
	case arrival:
		return Kinds
	case repair:
		return 1
	}
	return 0
}

// arrival is a new compass.
type arrival struct{ name string }

func (a arrival) check(b *Book) api.Errno {
	if b.compass(a.name) != nil {
		return api.ErrTwice
	}
	if len(b.compasses) == MaxCompasses {
		return api.ErrMany
	}
	return api.OK
}

func (a arrival) do(b *Book) {
	c := compass{name: a.name}
	for kind := range c.parts {
		c.parts[kind] = b.issue(part{home: len(b.compasses)})
	}
	b.compasses = append(b.compasses, c)
}

func (a arrival) undo(b *Book) { b.compasses = b.compasses[:len(b.compasses)-1] }

// exchange is a swap of parts.
type exchange struct {
	one, other string
	kind       int
}

func (x exchange) check(b *Book) api.Errno {
	if b.compass(x.one) == nil || b.compass(x.other) == nil {
		return api.ErrNone
	}
	if x.one == x.other {
		return api.ErrTwice
	}
	return api.OK
}

func (x exchange) do(b *Book) {
	one, other := &b.compass(x.one).parts[x.kind], &b.compass(x.other).parts[x.kind]
	*one, *other = *other, *one
}

func (x exchange) undo(b *Book) { x.do(b) }

// swing is a deviation that a swing gave.
type swing struct {
	compass string
	entry   Entry
}

func (s swing) check(b *Book) api.Errno { return b.missing(s.compass) }

func (s swing) do(b *Book) {
	all := &b.compass(s.compass).told[s.entry.Heading]
	*all = append(*all, s.entry.Deviation)
}

func (s swing) undo(b *Book) {
	all := &b.compass(s.compass).told[s.entry.Heading]
	*all = (*all)[:len(*all)-1]
}

// repair is a part that is replaced by a new one.
type repair struct {
	compass string
	kind    int
}

func (r repair) check(b *Book) api.Errno { return b.missing(r.compass) }

func (r repair) do(b *Book) {
	c := b.compass(r.compass)
	old := c.parts[r.kind]
	c.parts[r.kind] = b.issue(part{home: b.home(old), instead: old})
}

func (r repair) undo(b *Book) {
	c := b.compass(r.compass)
	c.parts[r.kind] = b.parts[c.parts[r.kind]-1].instead
}
