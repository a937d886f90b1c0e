package logbook

import (
	"iter"

	"agonic/api"
	"agonic/pillar"
)

// keptLine is a kept line, and what it tells.
type keptLine struct {
	line string
	told told
}

// compass is a compass as it is after the kept lines.
type compass struct {
	name  string
	parts [Kinds]int      // the serials
	told  [Headings][]int // all deviations that were told, so that the last one can be undone
}

// entries returns the card of a compass.
func (c compass) entries() []Entry {
	var card []Entry
	for heading, all := range c.told {
		if n := len(all); n > 0 {
			card = append(card, Entry{heading, all[n-1]})
		}
	}
	return card
}

// part is a part that got a serial.
type part struct {
	home    int // the index of a compass
	instead int // the serial of the part that it replaced, if it did not come with a compass
}

// isInvalid reports whether no function returned a book.
func (b *Book) isInvalid() bool { return b == nil || b.self != b }

// compass returns a compass of the book, or nil if there is none of this name.
func (b *Book) compass(name string) *compass {
	for i := range b.compasses {
		if b.compasses[i].name == name {
			return &b.compasses[i]
		}
	}
	return nil
}

// missing returns ErrNone if there is no compass of a name.
func (b *Book) missing(name string) api.Errno {
	if b.compass(name) == nil {
		return api.ErrNone
	}
	return api.OK
}

// ask returns a compass of a book that can be invalid.
func (b *Book) ask(name string) (*compass, api.Errno) {
	if b.isInvalid() {
		return nil, api.ErrNil
	}
	if !pillar.Name(name) {
		return nil, api.ErrName
	}
	return b.compass(name), b.missing(name)
}

// issue gives a new part its serial.
func (b *Book) issue(p part) int {
	b.parts = append(b.parts, p)
	return len(b.parts)
}

func (b *Book) hasIssued(serial int) bool { return serial >= 1 && serial <= len(b.parts) }

// home returns the index of the home of a part.
func (b *Book) home(serial int) int { return b.parts[serial-1].home }

// keep does a line that has no error in itself.
func (b *Book) keep(line string, t told) api.Errno {
	if e := t.check(b); e != api.OK {
		return e
	}
	if len(b.kept) == MaxLines {
		return api.ErrFull
	}
	t.do(b)
	b.kept = append(b.kept, keptLine{line, t})
	return api.OK
}

// remove undoes the last kept line.
func (b *Book) remove() api.Errno {
	n := len(b.kept)
	if n == 0 {
		return api.ErrEmpty
	}
	last := b.kept[n-1].told
	last.undo(b)
	b.parts = b.parts[:len(b.parts)-issued(last)]
	b.kept = b.kept[:n-1]
	return api.OK
}

// after returns a book that was told so many of the kept lines.
func (b *Book) after(count int) *Book {
	then := New()
	for _, k := range b.kept[:count] {
		k.told.do(then)
	}
	return then
}

// ring yields the compasses of a ring: each one is the home of the part in the one before it.
func (b *Book) ring(start, kind int) iter.Seq[int] {
	return func(yield func(int) bool) {
		for at := start; yield(at); {
			at = b.home(b.compasses[at].parts[kind])
			if at == start {
				return
			}
		}
	}
}
