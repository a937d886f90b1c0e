package rank

import "math/bits"

// set is days of a month: the bit of each of them is 1.
type set uint32

func (s set) has(day int) bool { return s>>day&1 == 1 }

func (s set) hasAll(days set) bool { return days&^s == 0 }

func (s set) with(day int) set { return s | 1<<day }

func (s set) size() int { return bits.OnesCount32(uint32(s)) }
