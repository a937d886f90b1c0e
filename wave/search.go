package wave

import (
	"iter"
	"slices"
)

// kind is a kind of phases.
type kind int

// The kinds of phases, in the order in which the elements of a ring share them.
const (
	ofSun kind = iota
	ofMoon
)

func (k kind) other() kind {
	if k == ofSun {
		return ofMoon
	}
	return ofSun
}

// node is a phase of the sun or of the moon.
type node struct {
	kind  kind
	phase int
}

// node returns the node of one kind that an hour has.
func (r Record) node(k kind, hour int) node {
	if k == ofSun {
		return node{k, hour % r.Sun}
	}
	return node{k, hour % r.Moon}
}

// across returns the node that the reading of an hour connects with another node, if it does.
func (r Record) across(n node, hour int) (node, bool) {
	if r.node(n.kind, hour) != n {
		return node{}, false
	}
	return r.node(n.kind.other(), hour), true
}

// nodes returns all nodes. Those of the sun come first, so that a search begins each
// part at its smallest phase of the sun, if it has one.
func (r Record) nodes() []node {
	var all []node
	for phase := range r.Sun {
		all = append(all, node{ofSun, phase})
	}
	for phase := range r.Moon {
		all = append(all, node{ofMoon, phase})
	}
	return all
}

// search is what is found by going from node to node over readings.
type search struct {
	record Record
	parts  int
	part   map[node]int   // which part a node is in
	level  map[node]int   // the wave at a node, if it is 0 where its part begins
	trail  map[node][]int // the readings that lead to a node from where its part begins
}

// search goes to all nodes. It takes each reading that leads to a new node as true.
func (r Record) search() search {
	s := search{record: r, part: map[node]int{}, level: map[node]int{}, trail: map[node][]int{}}
	unseen := map[node]bool{}
	for _, n := range r.nodes() {
		unseen[n] = true
	}
	var visit func(n node, level int, trail []int)
	visit = func(n node, level int, trail []int) {
		delete(unseen, n)
		s.part[n] = s.parts
		s.level[n] = level
		s.trail[n] = trail
		for i, x := range r.Readings {
			if next, ok := r.across(n, x.Hour); ok && unseen[next] {
				visit(next, x.Value-level, append(slices.Clone(trail), i))
			}
		}
	}
	for _, n := range r.nodes() {
		if unseen[n] {
			visit(n, 0, nil)
			s.parts++
		}
	}
	return s
}

// wave returns what the nodes of one kind have.
func (s search) wave(k kind, period int) []int {
	wave := make([]int, period)
	for phase := range wave {
		wave[phase] = s.level[node{k, phase}]
	}
	return wave
}

// follows reports whether all waves have the same value at an hour: its two nodes are in
// one part, so that what one wave is more, the other one is less.
func (s search) follows(hour int) bool {
	return s.part[s.record.node(ofSun, hour)] == s.part[s.record.node(ofMoon, hour)]
}

// value returns the sum of the waves at an hour.
func (s search) value(hour int) int {
	return s.level[s.record.node(ofSun, hour)] + s.level[s.record.node(ofMoon, hour)]
}

// hours yields the hours from one to another at which the value follows.
func (s search) hours(from, to int) iter.Seq[int] {
	return func(yield func(int) bool) {
		for hour := from; hour <= to; hour++ {
			if s.follows(hour) && !yield(hour) {
				return
			}
		}
	}
}

// wrong returns the first reading that is not the sum of the waves, -1 if there is none.
func (s search) wrong() int {
	return slices.IndexFunc(s.record.Readings, func(x Reading) bool { return s.value(x.Hour) != x.Value })
}

// ring returns the ring of a reading and of those over which the search went from its
// phase of the sun to that of the moon. No reading occurs twice, since both trails
// differ from where they part, so that the ring is not too long.
func (s search) ring(reading int) []int {
	hour := s.record.Readings[reading].Hour
	back := s.trail[s.record.node(ofSun, hour)]
	forth := s.trail[s.record.node(ofMoon, hour)]
	shared := 0
	for shared < min(len(back), len(forth)) && back[shared] == forth[shared] {
		shared++
	}
	ring := []int{reading}
	for _, i := range slices.Backward(back[shared:]) {
		ring = append(ring, i)
	}
	return append(ring, forth[shared:]...)
}
