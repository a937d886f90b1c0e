package ore

import "agonic/api"

func isWithin(n, least, most int) bool { return n >= least && n <= most }

func isDirection(n int) bool { return isWithin(n, 0, api.Turn-1) }

// isSize reports whether a block of a field can have so many columns or rows of cells.
func isSize(n int) bool { return isWithin(n, 1, MaxSide-1) }

// has reports whether a block is one of the field. Sums of its numbers could exceed an int.
func (f Field) has(b Block) bool {
	right, top := f.Width-1, f.Height-1
	return isWithin(b.X, 0, right) && isWithin(b.Y, 0, top) && isWithin(b.W, 1, right-b.X) && isWithin(b.H, 1, top-b.Y)
}

// isCertain reports whether the field is certain. All neighbors are on the border of some cell.
func (f Field) isCertain() bool {
	for cell := range f.whole().cells() {
		for from, to := range cell.border() {
			n := f.turn(from, to)
			if max(n, -n)+2*f.Off >= api.Turn/2 {
				return false
			}
		}
	}
	return true
}
