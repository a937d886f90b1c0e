package pillar

import "iter"

// width is how many lines a grid has: one for the value, and one for each error.
const width = MaxErrors + 1

// grid has a line for the value and one for each error. Its first MaxRows columns
// hold the factors of the plan's rows. The other columns start as unit columns, so
// that they record from which lines of the plan each line has been mixed.
type grid [width][MaxRows + width]int

// The steps of the reduction of a column.
const (
	seek = iota
	raise
	clean
	settled
)

// eliminate brings a number that is not 0 of a column to a line, and clears the
// column in all other lines. It returns that number, or 0 if there is none from
// this line on. Before is what the previous column returned: every number of the
// grid then is a determinant of factors, divisible by it, so that nothing grows.
func (g *grid) eliminate(column, line, before int) int {
	found, pivot := line, 0
steps:
	for step := seek; step < settled; step++ {
		switch step {
		case seek:
			for found < len(g) && g[found][column] == 0 {
				found++
			}
			if found == len(g) {
				break steps
			}
		case raise:
			g[line], g[found] = g[found], g[line]
			pivot = g[line][column]
		case clean:
			for other := range g {
				if other != line {
					g.mix(other, line, column, before)
				}
			}
		}
	}
	return pivot
}

// mix subtracts a line from another one so that the column of the other one becomes 0.
func (g *grid) mix(other, line, column, before int) {
	pivot, factor := g[line][column], g[other][column]
	for i := range g[other] {
		g[other][i] = (g[other][i]*pivot - g[line][i]*factor) / before
	}
}

// reduced is a grid after the elimination of the columns of some rows of a plan.
type reduced struct {
	plan  Plan
	grid  grid
	rank  int        // how many lines lead, from the first one on
	lead  [width]int // the row in whose column each of them is alone
	pivot int        // the number that each of them has there
	spare int        // the first row that depends on those before it, or -1
}

// reduce eliminates the columns of rows.
func reduce(p Plan, rows iter.Seq[int]) reduced {
	r := reduced{plan: p, grid: lay(p), pivot: 1, spare: -1}
	for row := range rows {
		pivot := r.grid.eliminate(row, r.rank, r.pivot)
		if pivot != 0 {
			r.lead[r.rank] = row
			r.pivot = pivot
			r.rank++
		} else if r.spare < 0 {
			r.spare = row
		}
	}
	return r
}

// lay returns the grid of a plan.
func lay(p Plan) grid {
	var g grid
	for line := range p.Errors + 1 {
		for row, factors := range p.Rows {
			g[line][row] = factors[line]
		}
		g[line][MaxRows+line] = 1
	}
	return g
}

// combination returns the combination of the reduced rows, if they have one.
func (r reduced) combination() (Weights, bool) {
	if _, lost := r.hidden(); lost {
		return Weights{}, false
	}
	under, of := r.pivot, make([]int, len(r.plan.Rows))
	for line := range r.rank {
		of[r.lead[line]] = r.grid[line][MaxRows]
	}
	d := divisor(under, of...)
	if under < 0 {
		d = -d
	}
	divide(of, d)
	return Weights{Under: under / d, Of: of}, true
}

// hidden returns hidden numbers of the reduced rows, if they have some: a mixture
// of lines of which nothing is left in any row, although the value is part of it.
func (r reduced) hidden() ([]int, bool) {
	for line := r.rank; line < width; line++ {
		if r.grid[line][MaxRows] == 0 {
			continue
		}
		hidden := make([]int, r.plan.Errors+1)
		copy(hidden, r.grid[line][MaxRows:])
		divide(hidden, divisor(0, hidden...))
		return hidden, true
	}
	return nil, false
}

// dependency returns numbers whose sum is 0 at every index, with one that is not 0,
// if the reduced rows have some.
func (r reduced) dependency() ([]int, bool) {
	if r.spare < 0 {
		return nil, false
	}
	of := make([]int, len(r.plan.Rows))
	of[r.spare] = -r.pivot
	for line := range r.rank {
		of[r.lead[line]] = r.grid[line][r.spare]
	}
	divide(of, divisor(0, of...))
	return of, true
}
