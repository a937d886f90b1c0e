package ore

import "agonic/api"

// whole returns the block of all cells.
func (f Field) whole() Block { return Block{0, 0, f.Width - 1, f.Height - 1} }

func (f Field) needle(p point) int { return f.Needles[p.y*f.Width+p.x] }

// turn returns the turn between directions; that between opposite ones is -Turn / 2.
func turn(from, to int) int {
	const half = api.Turn / 2
	return (to-from+api.Turn+half)%api.Turn - half
}

func (f Field) turn(from, to point) int { return turn(f.needle(from), f.needle(to)) }

func (f Field) index(b Block) int {
	sum := 0
	for from, to := range b.border() {
		sum += f.turn(from, to)
	}
	return sum / api.Turn
}

// walk goes by best cuts from a block with an index that is not 0 to an ore cell, and
// returns how many needles of the cuts were read.
func (f Field) walk(b Block) (cell Block, read int) {
	known := b.plans()
further:
	if best := known[b.W][b.H].best; best != nil {
		read += best.needles(b)
		one, other := best.parts(b)
		b = one
		if f.index(one) == 0 {
			// The sum of both indices is not 0.
			b = other
		}
		goto further
	}
	return b, read
}
