package card_test

import (
	"math/big"
	"slices"

	"agonic/api"
	"agonic/card"
)

func list(l ...int) []int { return l }

func part(num, den int) api.Ratio { return api.Ratio{Num: num, Den: den} }

// parts returns fractions: numerator and denominator in turn.
func parts(l ...int) []api.Ratio {
	var out []api.Ratio
	for i := 0; i+1 < len(l); i += 2 {
		out = append(out, part(l[i], l[i+1]))
	}
	return out
}

// of returns a card: Heading and Deviation in turn.
func of(l ...int) card.Card {
	var out card.Card
	for i := 0; i+1 < len(l); i += 2 {
		out = append(out, card.Point{Heading: l[i], Deviation: l[i+1]})
	}
	return out
}

// known returns marks: Heading, and both ends of the deviation, in turn.
func known(l ...int) card.Known {
	var out card.Known
	for i := 0; i+2 < len(l); i += 3 {
		out = append(out, card.Mark{Heading: l[i], Deviation: api.Span{Lo: l[i+1], Hi: l[i+2]}})
	}
	return out
}

// even, folded and uncertain are A, B and C of the chapter's examples.
func even() card.Card { return of(0, 0, 900, 90, 1800, 0, 2700, -90) }

func folded() card.Card { return of(0, 0, 100, -200) }

func uncertain() card.Known { return known(0, 0, 0, 900, 80, 100, 1800, 0, 0, 2700, -90, -90) }

// dice yields the same numbers in every run.
type dice struct{ state uint64 }

// roll returns a number from a to b.
func (d *dice) roll(a, b int) int {
	d.state = d.state*6364136223846793005 + 1442695040888963407
	return a + int(d.state>>33)%(b-a+1)
}

func (d *dice) pick(l ...int) int { return l[d.roll(0, len(l)-1)] }

// headings returns headings in ascending order, at most so many, some of them close together.
func (d *dice) headings(most int) []int {
	first, wide := d.roll(0, api.Turn-1), d.pick(40, 400, api.Turn, api.Turn)
	seen := map[int]bool{}
	for range most {
		seen[(first+d.roll(0, wide-1))%api.Turn] = true
	}
	var out []int
	for h := range seen {
		out = append(out, h)
	}
	slices.Sort(out)
	return out
}

func (d *dice) count() int { return d.pick(1, 2, 3, 4, 7, d.roll(1, card.MaxPoints), card.MaxPoints) }

// wild returns a card, which may fold.
func (d *dice) wild() card.Card {
	most := d.pick(3, 60, card.MaxDeviation)
	var out card.Card
	for _, h := range d.headings(d.count()) {
		out = append(out, card.Point{Heading: h, Deviation: d.roll(-most, most)})
	}
	i := d.roll(0, len(out)-1)
	if j := i + 1; j < len(out) && d.roll(0, 2) == 0 {
		// A segment that stays on one course, if that is possible.
		out[j].Deviation = max(-card.MaxDeviation, course(out[i])-out[j].Heading)
	}
	return out
}

// course returns the magnetic course of a point, as a number of any turn.
func course(p card.Point) int { return p.Heading + p.Deviation }

// onTurn returns the same heading of one turn.
func onTurn(heading int) int { return (heading%api.Turn + api.Turn) % api.Turn }

// sound returns a card whose points' courses are in the order of the points.
func (d *dice) sound() card.Card {
	for {
		n := d.count()
		headings, courses := d.headings(n), d.headings(n)
		by := d.roll(-card.MaxDeviation, card.MaxDeviation)
		var out card.Card
		for i := range min(len(headings), len(courses)) {
			out = append(out, card.Point{Heading: headings[i], Deviation: courses[i] - headings[i] + by})
		}
		if card.Check(out) == api.OK {
			return out
		}
	}
}

// any returns a card that is sound, or one that folds, each often enough.
func (d *dice) any() card.Card {
	if d.roll(0, 1) == 0 {
		return d.sound()
	}
	return d.wild()
}

// around returns spans that contain the deviations of a card.
func (d *dice) around(c card.Card, most int) card.Known {
	var out card.Known
	for _, p := range c {
		lo := max(-card.MaxDeviation, p.Deviation-d.roll(0, most))
		hi := min(card.MaxDeviation, p.Deviation+d.roll(0, most))
		out = append(out, card.Mark{Heading: p.Heading, Deviation: api.Span{Lo: lo, Hi: hi}})
	}
	return out
}

// sure returns marks of which all truths are sound.
func (d *dice) sure() card.Known {
	for {
		if k := d.around(d.sound(), d.pick(0, 2, 20, 200)); trulySure(k) {
			return k
		}
	}
}

// truth returns a card of a list of marks, with deviations at the ends of spans or between them.
func (d *dice) truth(k card.Known) card.Card {
	var out card.Card
	for _, m := range k {
		lo, hi := m.Deviation.Lo, m.Deviation.Hi
		out = append(out, card.Point{Heading: m.Heading, Deviation: d.pick(lo, hi, d.roll(lo, hi))})
	}
	return out
}

// real is a point whose deviation is any fraction.
type real struct {
	heading   int
	deviation *big.Rat
}

func fraction(num, den int) *big.Rat { return big.NewRat(int64(num), int64(den)) }

// exactly returns what a result says, nil if it is not reduced.
func exactly(r api.Ratio) *big.Rat {
	if r.Den < 1 {
		return nil
	}
	f := fraction(r.Num, r.Den)
	if f.Denom().Int64() != int64(r.Den) {
		return nil
	}
	return f
}

func same(r api.Ratio, f *big.Rat) bool {
	x := exactly(r)
	return x != nil && x.Cmp(f) == 0
}

func sum(a, b *big.Rat) *big.Rat { return new(big.Rat).Add(a, b) }

func difference(a, b *big.Rat) *big.Rat { return new(big.Rat).Sub(a, b) }

func product(a, b *big.Rat) *big.Rat { return new(big.Rat).Mul(a, b) }

func reals(c card.Card) []real {
	var out []real
	for _, p := range c {
		out = append(out, real{p.Heading, fraction(p.Deviation, 1)})
	}
	return out
}

// wrapped returns a heading of one turn.
func wrapped(f *big.Rat) *big.Rat {
	f = new(big.Rat).Set(f)
	for f.Sign() < 0 {
		f.Add(f, fraction(api.Turn, 1))
	}
	for f.Cmp(fraction(api.Turn, 1)) >= 0 {
		f.Sub(f, fraction(api.Turn, 1))
	}
	return f
}

// stretch is a segment in the definition's words.
type stretch struct {
	begin, end int
	from, to   *big.Rat
}

func stretches(c []real) []stretch {
	var out []stretch
	for i, p := range c {
		if i+1 < len(c) {
			out = append(out, stretch{p.heading, c[i+1].heading, p.deviation, c[i+1].deviation})
		} else {
			out = append(out, stretch{p.heading, c[0].heading + api.Turn, p.deviation, c[0].deviation})
		}
	}
	return out
}

func (s stretch) rise() *big.Rat {
	return difference(sum(fraction(s.end-s.begin, 1), s.to), s.from)
}

// trueDeviation returns the deviation on a number from 0 to below a turn.
func trueDeviation(c []real, on *big.Rat) *big.Rat {
	for _, p := range c {
		if on.Cmp(fraction(p.heading, 1)) == 0 {
			return p.deviation
		}
	}
	for _, x := range []*big.Rat{on, sum(on, fraction(api.Turn, 1))} {
		for _, s := range stretches(c) {
			past := difference(x, fraction(s.begin, 1))
			if past.Sign() > 0 && x.Cmp(fraction(s.end, 1)) < 0 {
				past.Quo(past, fraction(s.end-s.begin, 1))
				return sum(s.from, product(past, difference(s.to, s.from)))
			}
		}
	}
	return nil
}

// trueCourse returns the magnetic course of a number from 0 to below a turn.
func trueCourse(c []real, on *big.Rat) *big.Rat { return wrapped(sum(on, trueDeviation(c, on))) }

// trueFolds returns the segments with a rise that is not above 0.
func trueFolds(c []real) []int {
	var out []int
	for i, s := range stretches(c) {
		if s.rise().Sign() <= 0 {
			out = append(out, i)
		}
	}
	return out
}

// trueCount returns how many compass courses a magnetic heading has, -1 if infinitely many.
func trueCount(c card.Card, magnetic int) int {
	count := 0
	for i, p := range c {
		next, turn := c[(i+1)%len(c)], 0
		if i+1 == len(c) {
			turn = api.Turn
		}
		from, to := course(p), course(next)+turn
		for m := magnetic - 3*api.Turn; m <= magnetic+4*api.Turn; m += api.Turn {
			if from == m && to == m {
				return -1
			}
			if from <= m && m < to || to < m && m <= from {
				count++
			}
		}
	}
	return count
}

// trueAllowance returns the allowance for a magnetic heading, of a sound card.
func trueAllowance(c []real, magnetic int) *big.Rat {
	for _, s := range stretches(c) {
		from := sum(fraction(s.begin, 1), s.from)
		for turn := -2; turn <= 2; turn++ {
			past := difference(fraction(magnetic+turn*api.Turn, 1), from)
			past.Quo(past, s.rise())
			if past.Sign() >= 0 && past.Cmp(fraction(1, 1)) < 0 {
				return sum(s.from, product(past, difference(s.to, s.from)))
			}
		}
	}
	return nil
}

// trulySure reports whether no two neighbouring deviations within their spans fold.
func trulySure(k card.Known) bool {
	for i, m := range k[1:] {
		if m.Heading+m.Deviation.Lo <= k[i].Heading+k[i].Deviation.Hi {
			return false
		}
	}
	first, last := k[0], k[len(k)-1]
	return len(k) == 1 || first.Heading+api.Turn+first.Deviation.Lo > last.Heading+last.Deviation.Hi
}

// turned returns a card whose headings are later by so many tenths.
func turned(c card.Card, by int) card.Card {
	out := slices.Clone(c)
	for i, p := range out {
		out[i].Heading = onTurn(p.Heading + by)
	}
	slices.SortFunc(out, func(a, b card.Point) int { return a.Heading - b.Heading })
	return out
}

// negated returns a card with the negative headings and deviations.
func negated(c card.Card) card.Card {
	var out card.Card
	for _, p := range c {
		out = append(out, card.Point{Heading: onTurn(-p.Heading), Deviation: -p.Deviation})
	}
	return turned(out, 0)
}

// greater returns a card with greater deviations, if they remain as stated.
func greater(c card.Card, by int) card.Card {
	out := slices.Clone(c)
	for i := range out {
		out[i].Deviation += by
	}
	return out
}
