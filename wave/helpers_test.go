package wave_test

import (
	"slices"

	"agonic/wave"
)

func list(l ...int) []int { return l }

// readings returns readings: hour and value in turn.
func readings(l ...int) []wave.Reading {
	var out []wave.Reading
	for i := 0; i+1 < len(l); i += 2 {
		out = append(out, wave.Reading{Hour: l[i], Value: l[i+1]})
	}
	return out
}

// record returns a record: hour and value of its readings in turn.
func record(sun, moon int, l ...int) wave.Record {
	return wave.Record{Sun: sun, Moon: moon, Readings: readings(l...)}
}

// right, wrong and less are R, T and U of the chapter's examples.
func right() wave.Record { return record(3, 2, 0, 15, 1, 23, 2, 16, 3, 24) }

func wrong() wave.Record { return record(3, 2, 0, 15, 1, 23, 2, 16, 3, 24, 5, 99) }

func less() wave.Record { return record(3, 2, 0, 15, 1, 23, 2, 16, 5, 99) }

func clone(r wave.Record) wave.Record {
	r.Readings = slices.Clone(r.Readings)
	return r
}

// without returns a record without one of its readings.
func without(r wave.Record, i int) wave.Record {
	r = clone(r)
	r.Readings = slices.Delete(r.Readings, i, i+1)
	return r
}

// changed returns a record in which one reading differs.
func changed(r wave.Record, i, by int) wave.Record {
	r = clone(r)
	r.Readings[i].Value += by
	return r
}

// moved returns a record whose hours are later.
func moved(r wave.Record, by int) wave.Record {
	r = clone(r)
	for i := range r.Readings {
		r.Readings[i].Hour += by
	}
	return r
}

// exchanged returns a record in which sun and moon are exchanged.
func exchanged(r wave.Record) wave.Record {
	r = clone(r)
	r.Sun, r.Moon = r.Moon, r.Sun
	return r
}

// dice yields the same numbers in every run.
type dice struct{ state uint64 }

// roll returns a number from a to b.
func (d *dice) roll(a, b int) int {
	d.state = d.state*6364136223846793005 + 1442695040888963407
	return a + int(d.state>>33)%(b-a+1)
}

// hours returns a record of readings of the value 0, at most so many, of hours from start to end.
func (d *dice) hours(sun, moon, most, start, end int) wave.Record {
	r := wave.Record{Sun: sun, Moon: moon}
	seen := map[int]bool{}
	for range most {
		seen[d.roll(start, end)] = true
	}
	for h := range seen {
		r.Readings = append(r.Readings, wave.Reading{Hour: h})
	}
	slices.SortFunc(r.Readings, func(a, b wave.Reading) int { return a.Hour - b.Hour })
	return r
}

// truth returns a sun wave and a moon wave.
func (d *dice) truth(r wave.Record, most int) (sun, moon []int) {
	for range r.Sun {
		sun = append(sun, d.roll(-most, most))
	}
	for range r.Moon {
		moon = append(moon, d.roll(-most, most))
	}
	return sun, moon
}

func at(sun, moon []int, hour int) int { return sun[hour%len(sun)] + moon[hour%len(moon)] }

// of returns a record with what two waves have at its hours.
func of(r wave.Record, sun, moon []int) wave.Record {
	r = clone(r)
	for i, x := range r.Readings {
		r.Readings[i].Value = at(sun, moon, x.Hour)
	}
	return r
}

// holds reports whether two lists are waves of a record.
func holds(r wave.Record, sun, moon []int) bool {
	if len(sun) != r.Sun || len(moon) != r.Moon {
		return false
	}
	for _, x := range r.Readings {
		if at(sun, moon, x.Hour) != x.Value {
			return false
		}
	}
	return true
}

// fitting returns a record that fits.
func (d *dice) fitting() wave.Record {
	top := list(4, 9, wave.MaxPeriod)[d.roll(0, 2)]
	sun, moon := d.roll(1, top), d.roll(1, top)
	start := list(0, d.roll(0, 90000), wave.MaxHour-100)[d.roll(0, 2)]
	wide := list(sun+moon, 100, 10000)[d.roll(0, 2)]
	r := d.hours(sun, moon, d.roll(0, list(sun+moon, wave.MaxReadings)[d.roll(0, 1)]), start, min(start+wide, wave.MaxHour))
	a, b := d.truth(r, list(1, 50, wave.MaxValue/2)[d.roll(0, 2)])
	return of(r, a, b)
}

// mixed returns a record that fits, one that differs from it by few readings, or any one.
func (d *dice) mixed() wave.Record {
	r := d.fitting()
	wrong := list(0, 1, 2, len(r.Readings))[d.roll(0, 3)]
	for range wrong {
		if i := d.roll(0, len(r.Readings)); i < len(r.Readings) {
			r.Readings[i].Value = d.roll(-2, 2)
		}
	}
	return r
}

// trueParts merges the numbers of nodes that a reading connects: those of the
// sun, and then those of the moon.
func trueParts(r wave.Record) []int {
	part := make([]int, r.Sun+r.Moon)
	for n := range part {
		part[n] = n
	}
	for _, x := range r.Readings {
		a, b := part[x.Hour%r.Sun], part[r.Sun+x.Hour%r.Moon]
		for n := range part {
			if part[n] == b {
				part[n] = a
			}
		}
	}
	return part
}

// lifted adds a number to the sun wave in one part, and subtracts it from the moon wave.
func lifted(sun, moon []int, part []int, which, by int) (a, b []int) {
	a, b = slices.Clone(sun), slices.Clone(moon)
	for n, p := range part {
		if p != which {
			continue
		}
		if n < len(a) {
			a[n] += by
		} else {
			b[n-len(a)] -= by
		}
	}
	return a, b
}

// prime is greater than twice every sum of a ring.
const prime = 1<<31 - 1

// equations are the readings as equations of the nodes' values, modulo a prime, solved
// one after the other: each has a column in which it is 1 and all others are 0.
type equations struct {
	sun, moon int
	rows      [][]int
	column    []int
	fits      bool
}

func inverse(a int) int {
	out := 1
	for e := prime - 2; e > 0; e /= 2 {
		if e%2 == 1 {
			out = out * a % prime
		}
		a = a * a % prime
	}
	return out
}

// subtract subtracts a multiple of a row from another one.
func subtract(from, row []int, times int) {
	for i, x := range row {
		from[i] = (from[i] + (prime-x)*times) % prime
	}
}

func equationsOf(r wave.Record) *equations {
	q := &equations{sun: r.Sun, moon: r.Moon, fits: true}
	for _, x := range r.Readings {
		row := q.reduced(x.Hour, x.Value)
		c := slices.IndexFunc(row, func(v int) bool { return v != 0 })
		if c < 0 {
			continue
		}
		if c == r.Sun+r.Moon {
			q.fits = false
			continue
		}
		whole := make([]int, len(row))
		subtract(whole, row, prime-inverse(row[c]))
		for _, other := range q.rows {
			subtract(other, whole, other[c])
		}
		q.rows = append(q.rows, whole)
		q.column = append(q.column, c)
	}
	return q
}

// reduced returns the equation of an hour, less the equations that are there.
func (q *equations) reduced(hour, value int) []int {
	row := make([]int, q.sun+q.moon+1)
	row[hour%q.sun] = 1
	row[q.sun+hour%q.moon] = 1
	row[q.sun+q.moon] = (value + prime) % prime
	for i, other := range q.rows {
		subtract(row, other, row[q.column[i]])
	}
	return row
}

// value returns the value at an hour, if it follows.
func (q *equations) value(hour int) (int, bool) {
	row := q.reduced(hour, 0)
	for _, x := range row[:q.sun+q.moon] {
		if x != 0 {
			return 0, false
		}
	}
	value := (prime - row[q.sun+q.moon]) % prime
	if value > prime/2 {
		value -= prime
	}
	return value, true
}

// trueRing checks a ring in the definition's words: elements, turns, sum.
func trueRing(r wave.Record, ring []int) (closed, clashes bool) {
	if len(ring) < 2 || len(ring) > 60 || len(ring)%2 != 0 {
		return false, false
	}
	plus, minus := 0, 0
	for i := 0; i < len(ring); i += 2 {
		a, b, c := ring[i], ring[i+1], ring[(i+2)%len(ring)]
		for _, x := range list(a, b, c) {
			if x < 0 || x >= len(r.Readings) {
				return false, false
			}
		}
		if (r.Readings[a].Hour-r.Readings[b].Hour)%r.Sun != 0 || (r.Readings[b].Hour-r.Readings[c].Hour)%r.Moon != 0 {
			return false, false
		}
		plus += r.Readings[a].Value
		minus += r.Readings[b].Value
	}
	return true, plus != minus
}

// walk returns a ring of readings, if it closes.
func (d *dice) walk(r wave.Record, length int) []int {
	if len(r.Readings) == 0 {
		return nil
	}
	ring := list(d.roll(0, len(r.Readings)-1))
	for len(ring) < length {
		period := list(r.Moon, r.Sun)[len(ring)%2]
		hour := r.Readings[ring[len(ring)-1]].Hour
		var next []int
		for i, x := range r.Readings {
			if (x.Hour-hour)%period == 0 {
				next = append(next, i)
			}
		}
		ring = append(ring, next[d.roll(0, len(next)-1)])
	}
	return ring
}

// lasso returns a record in which readings lead from phase to phase, and from the last
// phase of the sun back to a phase of the moon; and its only ring.
func lasso(sun, moon, phases, back int) (wave.Record, []int) {
	r := wave.Record{Sun: sun, Moon: moon}
	for hour := range sun * moon {
		s, m := hour%sun, hour%moon
		if s < phases && m < phases && (s == m || m == s+1 || s == phases-1 && m == back) {
			r.Readings = append(r.Readings, wave.Reading{Hour: hour})
		}
	}
	var ring []int
	for s := back; s < phases; s++ {
		next := s + 1
		if next == phases {
			next = back
		}
		for _, m := range list(s, next) {
			ring = append(ring, slices.IndexFunc(r.Readings, func(x wave.Reading) bool { return x.Hour%sun == s && x.Hour%moon == m }))
		}
	}
	return r, ring
}
