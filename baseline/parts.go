package baseline

import (
	"iter"
	"slices"

	"agonic/api"
)

// parted is a sheet whose hours are divided into parts by steps.
type parted struct {
	Sheet
	steps []int
}

// part is hours up to a last one, without a step between them.
type part struct {
	last      int
	absolutes []Absolute
}

func split(s Sheet, steps []int) parted {
	return parted{Sheet: s, steps: steps}
}

// parts yields the parts in ascending order; the last one has no step behind it.
func (p parted) parts() iter.Seq[part] {
	return func(yield func(part) bool) {
		rest := p.Absolutes
		for _, step := range p.steps {
			n := walk(rest, func(a Absolute) bool { return a.Hour <= step })
			if !yield(part{last: step, absolutes: rest[:n]}) {
				return
			}
			rest = rest[n:]
		}
		yield(part{last: MaxHour + 1, absolutes: rest})
	}
}

// explained reports whether there is a baseline in each part.
func (p parted) explained() bool {
	for hours := range p.parts() {
		if p.stretch(hours.absolutes) < len(hours.absolutes) {
			return false
		}
	}
	return true
}

// value returns the values at an hour, if an absolute is in its part. Of absolutes
// that have a baseline each one bounds it directly: no way over others is shorter.
func (p parted) value(hour int) (api.Span, bool) {
	for hours := range p.parts() {
		if hour <= hours.last {
			r := p.open(hour)
			known := walk(hours.absolutes, r.cut)
			return r.span, known > 0
		}
	}
	return api.Span{}, false
}

// lessOne yields what is left without each of the absolutes.
func (p parted) lessOne() iter.Seq[parted] {
	return func(yield func(parted) bool) {
		for i := range p.Absolutes {
			rest := p
			rest.Absolutes = slices.Concat(p.Absolutes[:i], p.Absolutes[i+1:])
			if !yield(rest) {
				return
			}
		}
	}
}

// breaks yields the index of each absolute that does not fit to those since the
// break before: no step can be later than right before it, and later steps leave
// the least to the steps behind them.
func (s Sheet) breaks() iter.Seq[int] {
	return func(yield func(int) bool) {
		at := s.stretch(s.Absolutes)
		for at < len(s.Absolutes) && yield(at) {
			at += s.stretch(s.Absolutes[at:])
		}
	}
}

// indices returns at which positions items have a property.
func indices[T any](items iter.Seq[T], has func(T) bool) []int {
	var found []int
	at := 0
	for item := range items {
		if has(item) {
			found = append(found, at)
		}
		at++
	}
	return found
}
