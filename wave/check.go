package wave

import "agonic/api"

func isPeriod(p int) bool { return p >= 1 && p <= MaxPeriod }

func isHour(h int) bool { return h >= 0 && h <= MaxHour }

// checkReadings checks the readings, not how many they are.
func (r Record) checkReadings() api.Errno {
	for i, x := range r.Readings {
		if !isHour(x.Hour) || x.Value < -MaxValue || x.Value > MaxValue {
			return api.ErrRange
		}
		if i > 0 && x.Hour <= r.Readings[i-1].Hour {
			return api.ErrOrder
		}
	}
	return api.OK
}

// fitting returns what a search finds, if the record fits.
func (r Record) fitting() (search, api.Errno) {
	if e := Check(r); e != api.OK {
		return search{}, e
	}
	s := r.search()
	if s.wrong() >= 0 {
		return search{}, api.ErrClash
	}
	return s, api.OK
}

// checkRing checks the elements of a ring, not its length.
func (r Record) checkRing(ring []int) api.Errno {
	for i, x := range ring {
		if x < 0 || x >= len(r.Readings) {
			return api.ErrNone
		}
		if i > 0 && !r.meet(kind((i-1)%2), ring[i-1], x) {
			return api.ErrOrder
		}
	}
	if !r.meet(ofMoon, ring[len(ring)-1], ring[0]) {
		return api.ErrOrder
	}
	return api.OK
}

// meet reports whether two readings have the same phase of one kind.
func (r Record) meet(k kind, i, j int) bool {
	return r.node(k, r.Readings[i].Hour) == r.node(k, r.Readings[j].Hour)
}

// sum returns the sum of a ring.
func (r Record) sum(ring []int) int {
	sum, sign := 0, 1
	for _, i := range ring {
		sum += sign * r.Readings[i].Value
		sign = -sign
	}
	return sum
}
