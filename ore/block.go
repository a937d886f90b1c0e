package ore

import "iter"

// point is a point of the grid, or a way from one to another.
type point struct{ x, y int }

// border yields the points along the border of a block, each with the next one.
func (b Block) border() iter.Seq2[point, point] {
	return func(yield func(from, to point) bool) {
		from := point{b.X, b.Y}
		right, up, left, down := point{1, 0}, point{0, 1}, point{-1, 0}, point{0, -1}
		for _, step := range [4]point{right, up, left, down} {
			for range b.side(step) {
				to := point{from.x + step.x, from.y + step.y}
				if !yield(from, to) {
					return
				}
				from = to
			}
		}
	}
}

// side returns how many steps lead along the side of a block.
func (b Block) side(step point) int {
	if step.y == 0 {
		return b.W
	}
	return b.H
}

// cells yields the cells of a block, row by row from below, from left to right.
func (b Block) cells() iter.Seq[Block] {
	return func(yield func(Block) bool) {
		for y := range b.H {
			for x := range b.W {
				if !yield(Block{b.X + x, b.Y + y, 1, 1}) {
					return
				}
			}
		}
	}
}
