package ore_test

import (
	"math"
	"slices"

	"agonic/api"
	"agonic/ore"
)

func list(l ...int) []int { return l }

func block(x, y, w, h int) ore.Block { return ore.Block{X: x, Y: y, W: w, H: h} }

func cell(x, y int) ore.Block { return block(x, y, 1, 1) }

func field(width, height, off int, needles ...int) ore.Field {
	return ore.Field{Width: width, Height: height, Off: off, Needles: needles}
}

// example is F of the chapter's examples.
func example() ore.Field { return field(3, 2, 0, 0, 900, 900, 2700, 1800, 900) }

// apart is a field with the index 1 in one corner, -1 in another one, and 0 between them.
func apart() ore.Field {
	return field(5, 2, 0,
		0, 900, 900, 900, 0,
		2700, 1800, 1800, 1800, 2700)
}

func clone(f ore.Field) ore.Field {
	f.Needles = slices.Clone(f.Needles)
	return f
}

// back brings a direction back to one turn.
func back(n int) int { return (n%api.Turn + api.Turn) % api.Turn }

// changed returns a field with other needles.
func changed(f ore.Field, change func(int) int) ore.Field {
	f = clone(f)
	for i, n := range f.Needles {
		f.Needles[i] = back(change(n))
	}
	return f
}

// mirrored returns a field whose columns are told in the other order.
func mirrored(f ore.Field) ore.Field {
	f = clone(f)
	for row := range slices.Chunk(f.Needles, f.Width) {
		slices.Reverse(row)
	}
	return f
}

// upended returns a field whose rows are told in the other order.
func upended(f ore.Field) ore.Field {
	f = mirrored(f)
	slices.Reverse(f.Needles)
	return f
}

// leaned returns a field whose rows are told as columns, and whose columns as rows.
func leaned(f ore.Field) ore.Field {
	out := field(f.Height, f.Width, f.Off)
	for x := range f.Width {
		for y := range f.Height {
			out.Needles = append(out.Needles, f.Needles[y*f.Width+x])
		}
	}
	return out
}

// trueTurn is the turn as the definition brings it between -Turn / 2 and Turn / 2.
func trueTurn(from, to int) int {
	n := to - from
	for n > 1800 {
		n -= 3600
	}
	for n < -1800 {
		n += 3600
	}
	return n
}

// trueCheck returns the error of a field in the promise's words.
func trueCheck(f ore.Field) api.Errno {
	switch {
	case f.Width < 2, f.Width > 9, f.Height < 2, f.Height > 9, f.Off < 0, f.Off > 400:
		return api.ErrRange
	case len(f.Needles) != f.Width*f.Height:
		return api.ErrShape
	case slices.ContainsFunc(f.Needles, func(n int) bool { return n < 0 || n > 3599 }):
		return api.ErrRange
	}
	for i, a := range f.Needles {
		for j, b := range f.Needles {
			row, column := j/f.Width-i/f.Width, j%f.Width-i%f.Width
			turn := trueTurn(a, b)
			if row*row+column*column == 1 && max(turn, -turn)+2*f.Off >= 1800 {
				return api.ErrLost
			}
		}
	}
	return api.OK
}

// round returns the needles around a block, from its first corner on and back to it.
func round(f ore.Field, b ore.Block) []int {
	var out []int
	add := func(x, y int) { out = append(out, f.Needles[y*f.Width+x]) }
	for x := b.X; x < b.X+b.W; x++ {
		add(x, b.Y)
	}
	for y := b.Y; y < b.Y+b.H; y++ {
		add(b.X+b.W, y)
	}
	for x := b.X + b.W; x > b.X; x-- {
		add(x, b.Y+b.H)
	}
	for y := b.Y + b.H; y > b.Y; y-- {
		add(b.X, y)
	}
	add(b.X, b.Y)
	return out
}

// trueIndex counts how often the needles around a block turn over the direction 0:
// upwards, less those downwards.
func trueIndex(f ore.Field, b ore.Block) int {
	index := 0
	needles := round(f, b)
	for i, n := range needles[1:] {
		switch from := needles[i]; {
		case from+trueTurn(from, n) >= 3600:
			index++
		case from+trueTurn(from, n) < 0:
			index--
		}
	}
	return index
}

// blocks returns all blocks of a field.
func blocks(f ore.Field) []ore.Block {
	var out []ore.Block
	for y := range f.Height {
		for x := range f.Width {
			for h := 1; y+h < f.Height; h++ {
				for w := 1; x+w < f.Width; w++ {
					out = append(out, block(x, y, w, h))
				}
			}
		}
	}
	return out
}

// cellsOf returns the cells of a block, row by row.
func cellsOf(b ore.Block) []ore.Block {
	var out []ore.Block
	for i := range b.W * b.H {
		out = append(out, cell(b.X+i%b.W, b.Y+i/b.W))
	}
	return out
}

func whole(f ore.Field) ore.Block { return block(0, 0, f.Width-1, f.Height-1) }

// inside reports whether a block is within another one.
func inside(a, b ore.Block) bool {
	return a.X >= b.X && a.Y >= b.Y && a.X+a.W <= b.X+b.W && a.Y+a.H <= b.Y+b.H
}

// allCuts returns all cuts of a block of w by h cells.
func allCuts(w, h int) []ore.Cut {
	var out []ore.Cut
	for at := 1; at < w; at++ {
		out = append(out, ore.Cut{Up: true, At: at})
	}
	for at := 1; at < h; at++ {
		out = append(out, ore.Cut{Up: false, At: at})
	}
	return out
}

// divided returns how many needles a cut of a block has, and both parts.
func divided(b ore.Block, c ore.Cut) (needles int, one, other ore.Block) {
	if c.Up {
		return b.H - 1, block(b.X, b.Y, c.At, b.H), block(b.X+c.At, b.Y, b.W-c.At, b.H)
	}
	return b.W - 1, block(b.X, b.Y, b.W, c.At), block(b.X, b.Y+c.At, b.W, b.H-c.At)
}

// trueCosts returns the costs by the definition, from few columns and rows to many.
func trueCosts() map[[2]int]int {
	costs := map[[2]int]int{}
	for w := 1; w < ore.MaxSide; w++ {
		for h := 1; h < ore.MaxSide; h++ {
			best := math.MaxInt
			for _, c := range allCuts(w, h) {
				best = min(best, price(costs, w, h, c))
			}
			if w*h == 1 {
				best = 0
			}
			costs[[2]int{w, h}] = best
		}
	}
	return costs
}

// price returns the needles of a cut plus the greater cost of both parts.
func price(costs map[[2]int]int, w, h int, c ore.Cut) int {
	n, one, other := divided(block(0, 0, w, h), c)
	return n + max(costs[[2]int{one.W, one.H}], costs[[2]int{other.W, other.H}])
}

// found is what Find can return.
type found struct {
	cell ore.Block
	read int
}

// walks returns what can be found in a block, by all best cuts and parts with ore.
func walks(f ore.Field, b ore.Block, costs map[[2]int]int) map[found]bool {
	if b.W*b.H == 1 {
		return map[found]bool{{b, 0}: true}
	}
	out := map[found]bool{}
	for _, c := range allCuts(b.W, b.H) {
		if price(costs, b.W, b.H, c) > costs[[2]int{b.W, b.H}] {
			continue
		}
		n, one, other := divided(b, c)
		for _, part := range []ore.Block{one, other} {
			if trueIndex(f, part) == 0 {
				continue
			}
			for x := range walks(f, part, costs) {
				out[found{x.cell, x.read + n}] = true
			}
		}
	}
	return out
}

// dice yields the same numbers in every run.
type dice struct{ state uint64 }

// roll returns a number from a to b.
func (d *dice) roll(a, b int) int {
	d.state = d.state*6364136223846793005 + 1442695040888963407
	return a + int(d.state>>33)%(b-a+1)
}

func (d *dice) pick(l ...int) int { return l[d.roll(0, len(l)-1)] }

// wild returns a certain field with ore nearly everywhere: each needle turns from the one
// beside it by any amount that is certain.
func (d *dice) wild(width, height, off int) ore.Field {
	most := 1799 - 2*off
	for {
		f := field(width, height, off)
		for i := range width * height {
			switch n := d.roll(-most, most); {
			case i%width > 0:
				f.Needles = append(f.Needles, back(f.Needles[i-1]+n))
			case i > 0:
				f.Needles = append(f.Needles, back(f.Needles[i-width]+n))
			default:
				f.Needles = append(f.Needles, d.roll(0, 3599))
			}
			for tries := 0; !fits(f) && tries < 60; tries++ {
				f.Needles[i] = d.roll(0, 3599)
			}
		}
		if trueCheck(f) == api.OK {
			return f
		}
	}
}

// fits reports whether the last needle of the beginning of a field is certain with those before it.
func fits(f ore.Field) bool {
	i := len(f.Needles) - 1
	certain := func(j int) bool {
		turn := trueTurn(f.Needles[j], f.Needles[i])
		return max(turn, -turn)+2*f.Off < 1800
	}
	return (i%f.Width == 0 || certain(i-1)) && (i < f.Width || certain(i-f.Width))
}

// veins returns a certain field with few ore cells: needles turn around some places in
// them, in one way or the other.
func (d *dice) veins(width, height int) ore.Field {
	for {
		type place struct{ x, y, way float64 }
		var places []place
		for range d.roll(1, 4) {
			places = append(places, place{float64(d.roll(0, width-2)) + 0.5, float64(d.roll(0, height-2)) + 0.5, float64(d.pick(-1, 1))})
		}
		f, turned := field(width, height, d.pick(0, 0, 1, 40, 100)), d.roll(0, 3599)
		for i := range width * height {
			angle := 0.0
			for _, p := range places {
				angle += p.way * math.Atan2(float64(i/width)-p.y, float64(i%width)-p.x)
			}
			f.Needles = append(f.Needles, back(turned+int(math.Round(angle*1800/math.Pi))))
		}
		if trueCheck(f) == api.OK {
			return f
		}
	}
}

// good returns a field without an error.
func (d *dice) good() ore.Field {
	width, height := d.roll(2, 9), d.roll(2, 9)
	if d.roll(0, 2) == 0 {
		return d.veins(width, height)
	}
	return d.wild(width, height, d.pick(0, 0, 1, 100, 300, 400))
}

// part returns a block of a field.
func (d *dice) part(f ore.Field) ore.Block {
	all := blocks(f)
	return all[d.roll(0, len(all)-1)]
}
