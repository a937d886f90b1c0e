package card

import (
	"iter"
	"slices"

	"agonic/api"
)

// segment leads from one point to the next one, whose Heading is a turn later if it is the first.
type segment struct {
	begin, end Point
}

// course returns the magnetic course of a point, not brought back to one turn.
func (p Point) course() int { return p.Heading + p.Deviation }

func (s segment) length() int { return s.end.Heading - s.begin.Heading }

func (s segment) rise() int { return s.end.course() - s.begin.course() }

// deviation returns the deviation so many tenths past the beginning.
func (s segment) deviation(past fraction) fraction {
	change := past.times(s.end.Deviation-s.begin.Deviation, s.length())
	return whole(s.begin.Deviation).plus(change)
}

// courses yields the compass courses of a magnetic heading that lie in a segment, but
// for one without a rise. Its end belongs to the next segment.
func (s segment) courses(magnetic int) iter.Seq[fraction] {
	return func(yield func(fraction) bool) {
		rise, way := s.rise(), magnetic-s.begin.course()
		if rise < 0 {
			rise, way = -rise, -way
		}
		// A segment can rise by more than a turn, and so meet the heading twice.
		for way = back(way, api.Turn); way < rise; way += api.Turn {
			past := reduced(s.length()*way, rise)
			if !yield(whole(s.begin.Heading).plus(past).back()) {
				return
			}
		}
	}
}

// segments yields the segments with their numbers.
func (c Card) segments(yield func(int, segment) bool) {
	for i, begin := range c {
		end := c[(i+1)%len(c)]
		if i == len(c)-1 {
			end.Heading += api.Turn
		}
		if !yield(i, segment{begin, end}) {
			return
		}
	}
}

// segments yields each segment as it is where it rises the least: from the greatest
// deviation to the smallest one. (That of a single mark does not fold even so, though
// both its ends are one point.)
func (k Known) segments(yield func(int, segment) bool) {
	low, high := ends(k, func(c Card) Card { return c })
	for i, s := range high.segments {
		s.end.Deviation = low[(i+1)%len(low)].Deviation
		if !yield(i, s) {
			return
		}
	}
}

// ends returns what is read from the truth with the smallest deviations, and from that
// with the greatest ones.
func ends[T any](k Known, read func(Card) T) (lo, hi T) {
	var low, high Card
	for _, m := range k {
		low = append(low, Point{m.Heading, m.Deviation.Lo})
		high = append(high, Point{m.Heading, m.Deviation.Hi})
	}
	return read(low), read(high)
}

// folding returns the numbers of the segments that fold.
func folding(segments iter.Seq2[int, segment]) []int {
	var folds []int
	for i, s := range segments {
		if s.rise() <= 0 {
			folds = append(folds, i)
		}
	}
	return folds
}

// deviation returns the deviation on a compass course from 0 to below a turn.
func (c Card) deviation(compass fraction) fraction {
	for _, s := range c.segments {
		past := compass.plus(whole(-s.begin.Heading)).back()
		if past.below(s.length()) {
			return s.deviation(past)
		}
	}
	return fraction{}
}

// stays reports whether a segment has one magnetic heading from its beginning to its end.
func (c Card) stays(magnetic int) bool {
	for _, s := range c.segments {
		if s.rise() == 0 && back(s.begin.course(), api.Turn) == magnetic {
			return true
		}
	}
	return false
}

// courses returns the compass courses of a magnetic heading, if no segment stays on it.
func (c Card) courses(magnetic int) []fraction {
	var courses []fraction
	for _, s := range c.segments {
		courses = slices.AppendSeq(courses, s.courses(magnetic))
	}
	slices.SortFunc(courses, fraction.compare)
	return courses
}

// allowance returns the deviation on the only compass course of a magnetic heading.
func (c Card) allowance(magnetic int) api.Ratio {
	return api.Ratio(c.deviation(c.courses(magnetic)[0]))
}
