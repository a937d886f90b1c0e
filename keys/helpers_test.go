package keys_test

import (
	"slices"
	"strconv"
	"strings"

	"agonic/api"
	"agonic/keys"
)

func list(l ...int) []int { return l }

// cases reads cases as the chapter writes them: the number of a thing, with - before it
// if it is not so.
func cases(text string) []keys.Case {
	var out []keys.Case
	for _, word := range strings.Fields(text) {
		number, not := strings.CutPrefix(word, "-")
		thing, err := strconv.Atoi(number)
		if err != nil {
			panic(err)
		}
		out = append(out, keys.Case{Thing: thing, Is: !not})
	}
	return out
}

func one(text string) keys.Case { return cases(text)[0] }

// book returns a book with rules between commas.
func book(things int, text string) keys.Book {
	b := keys.Book{Things: things}
	for pair := range slices.Chunk(cases(strings.ReplaceAll(text, ",", " ")), 2) {
		b.Rules = append(b.Rules, keys.Rule{A: pair[0], B: pair[1]})
	}
	return b
}

// example and shut are B and D of the chapter's examples.
func example() keys.Book { return book(3, "0 1, -0 2, -1 2") }

func shut() keys.Book { return with(example(), "-2 -2") }

// with returns a book with more rules.
func with(b keys.Book, text string) keys.Book {
	return keys.Book{Things: b.Things, Rules: slices.Concat(b.Rules, book(0, text).Rules)}
}

// without returns a book without one of its rules.
func without(b keys.Book, i int) keys.Book {
	b = clone(b)
	b.Rules = slices.Delete(b.Rules, i, i+1)
	return b
}

// row returns a book in which each thing leads to the next one.
func row(things int) keys.Book {
	b := keys.Book{Things: things}
	for i := range things - 1 {
		b.Rules = append(b.Rules, rule(keys.Case{Thing: i}, keys.Case{Thing: i + 1, Is: true}))
	}
	return b
}

func rule(a, b keys.Case) keys.Rule { return keys.Rule{A: a, B: b} }

func clone(b keys.Book) keys.Book {
	b.Rules = slices.Clone(b.Rules)
	return b
}

// values reads values: 1 for true.
func values(text string) []bool {
	var out []bool
	for _, r := range text {
		out = append(out, r == '1')
	}
	return out
}

func contrary(c keys.Case) keys.Case { return keys.Case{Thing: c.Thing, Is: !c.Is} }

// everyCase returns the cases of all things of a book.
func everyCase(b keys.Book) []keys.Case {
	var out []keys.Case
	for i := range b.Things {
		out = append(out, keys.Case{Thing: i}, keys.Case{Thing: i, Is: true})
	}
	return out
}

// isTrue reports whether a case is true with the values that are the bits of a number.
func isTrue(c keys.Case, bits int) bool { return (bits>>c.Thing&1 == 1) == c.Is }

func holds(r keys.Rule, bits int) bool { return isTrue(r.A, bits) || isTrue(r.B, bits) }

// truths returns all truths of a book that agree with given cases, as bits of numbers.
func truths(b keys.Book, given ...keys.Case) []int {
	var out []int
	for bits := range 1 << b.Things {
		broken := slices.ContainsFunc(b.Rules, func(r keys.Rule) bool { return !holds(r, bits) })
		if !broken && !slices.ContainsFunc(given, func(c keys.Case) bool { return !isTrue(c, bits) }) {
			out = append(out, bits)
		}
	}
	return out
}

// spread returns the bits of a number as values of the things of a book.
func spread(b keys.Book, bits int) []bool {
	var out []bool
	for i := range b.Things {
		out = append(out, bits>>i&1 == 1)
	}
	return out
}

// gather returns values as the bits of a number.
func gather(values []bool) int {
	bits := 0
	for i, v := range values {
		if v {
			bits |= 1 << i
		}
	}
	return bits
}

// firstOf returns the first of truths: false comes before true.
func firstOf(b keys.Book, all []int) []bool {
	return spread(b, slices.MinFunc(all, func(x, y int) int {
		for i := range b.Things {
			if x>>i&1 != y>>i&1 {
				return x>>i&1 - y>>i&1
			}
		}
		return 0
	}))
}

// certainIn returns what is certain of each thing in truths.
func certainIn(b keys.Book, all []int) []int {
	var out []int
	for i := range b.Things {
		so := 0
		for _, bits := range all {
			so += bits >> i & 1
		}
		switch so {
		case 0:
			out = append(out, keys.No)
		case len(all):
			out = append(out, keys.Yes)
		default:
			out = append(out, keys.Open)
		}
	}
	return out
}

// spareOf returns the rules that hold in all truths of the book without them.
func spareOf(b keys.Book) []int {
	var out []int
	for i, r := range b.Rules {
		if !slices.ContainsFunc(truths(without(b, i)), func(bits int) bool { return !holds(r, bits) }) {
			out = append(out, i)
		}
	}
	return out
}

// firstByTrying tries false before true for one thing after the other, and returns the
// first truth that agrees with given cases, or nil.
func firstByTrying(b keys.Book, given []keys.Case) []bool {
	rules := slices.Clone(b.Rules)
	for _, c := range given {
		rules = append(rules, rule(c, c))
	}
	var try func(bits, known int) []bool
	try = func(bits, known int) []bool {
		for _, r := range rules {
			if max(r.A.Thing, r.B.Thing) < known && !holds(r, bits) {
				return nil
			}
		}
		if known == b.Things {
			return spread(b, bits)
		}
		if v := try(bits, known+1); v != nil {
			return v
		}
		return try(bits|1<<known, known+1)
	}
	return try(0, 0)
}

// pair is the first and the last case of a chain.
type pair struct{ from, to keys.Case }

// isStep reports whether two cases can be neighbours in a chain.
func isStep(b keys.Book, x, y keys.Case) bool {
	for _, r := range b.Rules {
		if r.A == contrary(x) && r.B == y || r.B == contrary(x) && r.A == y {
			return true
		}
	}
	return false
}

// sizes returns how many cases a shortest chain has, for each two cases between which there is one.
func sizes(b keys.Book) map[pair]int {
	out := map[pair]int{}
	all := everyCase(b)
	for _, x := range all {
		for _, y := range all {
			if isStep(b, x, y) {
				out[pair{x, y}] = 2
			}
		}
	}
	for _, x := range all {
		out[pair{x, x}] = 1
	}
	for _, over := range all {
		for _, x := range all {
			first := out[pair{x, over}]
			for _, y := range all {
				second, now := out[pair{over, y}], out[pair{x, y}]
				if first > 0 && second > 0 && (now == 0 || first+second-1 < now) {
					out[pair{x, y}] = first + second - 1
				}
			}
		}
	}
	return out
}

// hasCase reports whether the thing of a case is a thing of the book.
func hasCase(b keys.Book, c keys.Case) bool { return c.Thing >= 0 && c.Thing < b.Things }

func hasCases(b keys.Book, l []keys.Case) bool {
	return !slices.ContainsFunc(l, func(c keys.Case) bool { return !hasCase(b, c) })
}

// trueCheck returns the error of a book in the promise's words.
func trueCheck(b keys.Book) api.Errno {
	switch {
	case b.Things < 1, b.Things > 24:
		return api.ErrRange
	case len(b.Rules) > 80:
		return api.ErrMany
	}
	for _, r := range b.Rules {
		if !hasCase(b, r.A) || !hasCase(b, r.B) {
			return api.ErrNone
		}
	}
	return api.OK
}

// trueVerify returns the error of a chain in the promise's words.
func trueVerify(b keys.Book, chain []keys.Case) api.Errno {
	e := trueCheck(b)
	switch {
	case e != api.OK:
		return e
	case len(chain) == 0:
		return api.ErrEmpty
	case len(chain) > 100:
		return api.ErrMany
	case !hasCases(b, chain):
		return api.ErrNone
	}
	for i := range len(chain) - 1 {
		if !isStep(b, chain[i], chain[i+1]) {
			return api.ErrLost
		}
	}
	return api.OK
}

// trueProves returns the error of two chains in the promise's words.
func trueProves(b keys.Book, there, back []keys.Case) api.Errno {
	if e := trueVerify(b, there); e != api.OK {
		return e
	}
	if e := trueVerify(b, back); e != api.OK {
		return e
	}
	first, last := there[0], there[len(there)-1]
	if first.Thing != last.Thing || first.Is == last.Is || back[0] != last || back[len(back)-1] != first {
		return api.ErrProof
	}
	return api.OK
}

// dice yields the same numbers in every run.
type dice struct{ state uint64 }

// roll returns a number from a to b.
func (d *dice) roll(a, b int) int {
	d.state = d.state*6364136223846793005 + 1442695040888963407
	return a + int(d.state>>33)%(b-a+1)
}

func (d *dice) pick(l ...int) int { return l[d.roll(0, len(l)-1)] }

func (d *dice) isSo() bool { return d.roll(0, 1) == 1 }

// someCase returns a case of a thing of a book.
func (d *dice) someCase(b keys.Book) keys.Case {
	return keys.Case{Thing: d.roll(0, b.Things-1), Is: d.isSo()}
}

func (d *dice) some(b keys.Book, n int) []keys.Case {
	var out []keys.Case
	for range n {
		out = append(out, d.someCase(b))
	}
	return out
}

// book returns a book with rules of any kind.
func (d *dice) book(things, rules int) keys.Book {
	b := keys.Book{Things: things}
	for range rules {
		r := rule(d.someCase(b), d.someCase(b))
		switch {
		case d.roll(0, 15) == 0:
			r.B = r.A
		case d.roll(0, 15) == 0:
			r.B = contrary(r.A)
		case d.roll(0, 9) == 0 && len(b.Rules) > 0:
			r = b.Rules[d.roll(0, len(b.Rules)-1)]
			r.A, r.B = r.B, r.A
		}
		b.Rules = append(b.Rules, r)
	}
	return b
}

// possible returns a book of which the bits of a number are a truth.
func (d *dice) possible(things, rules, bits int) keys.Book {
	b := keys.Book{Things: things}
	for len(b.Rules) < rules {
		if r := rule(d.someCase(b), d.someCase(b)); holds(r, bits) {
			b.Rules = append(b.Rules, r)
		}
	}
	return b
}

// small returns a book with few things, possible ones and others.
func (d *dice) small() keys.Book {
	things := d.roll(1, 7)
	return d.book(things, d.roll(0, 3*things))
}

// large returns a book with many things, possible ones and others.
func (d *dice) large() keys.Book {
	things := d.roll(15, 24)
	if d.isSo() {
		return d.possible(things, d.roll(things, 80), d.roll(0, 1<<things-1))
	}
	return d.book(things, d.roll(things/2, 2*things))
}

// walk returns a chain from a case on, as far as there are steps and n allows.
func (d *dice) walk(b keys.Book, x keys.Case, n int) []keys.Case {
	chain := []keys.Case{x}
	for range n - 1 {
		var next []keys.Case
		for _, y := range everyCase(b) {
			if isStep(b, x, y) {
				next = append(next, y)
			}
		}
		if len(next) == 0 {
			break
		}
		x = next[d.roll(0, len(next)-1)]
		chain = append(chain, x)
	}
	return chain
}
