package ore

// cut is a cut of a block: an upright or a level one.
type cut interface {
	// needles returns how many needles a block's cut has.
	needles(b Block) int
	// parts returns the parts that a block is cut into.
	parts(b Block) (one, other Block)
}

// upright cuts after so many columns of cells.
type upright int

func (at upright) needles(b Block) int { return b.H - 1 }

func (at upright) parts(b Block) (one, other Block) {
	n := int(at)
	return Block{b.X, b.Y, n, b.H}, Block{b.X + n, b.Y, b.W - n, b.H}
}

// level cuts after so many rows of cells.
type level int

func (at level) needles(b Block) int { return b.W - 1 }

func (at level) parts(b Block) (one, other Block) {
	n := int(at)
	return Block{b.X, b.Y, b.W, n}, Block{b.X, b.Y + n, b.W, b.H - n}
}

// cuts returns all cuts of a block.
func (b Block) cuts() []cut {
	var all []cut
	for at := 1; at < b.W; at++ {
		all = append(all, upright(at))
	}
	for at := 1; at < b.H; at++ {
		all = append(all, level(at))
	}
	return all
}

// plan is how ore is found in a block: the cost, and a best cut, which is nil for one cell.
type plan struct {
	cost int
	best cut
}

// plans is the plans of blocks, by their W and H.
type plans [MaxSide][MaxSide]plan

func (b Block) plan() plan { return b.plans()[b.W][b.H] }

// plans returns the plan of a block, and those of all blocks that cuts can leave of it.
func (b Block) plans() plans {
	var all plans
	var fill func(part Block) plan
	fill = func(part Block) plan {
		p := all[part.W][part.H]
		if p.best != nil {
			return p
		}
		for _, c := range part.cuts() {
			one, other := c.parts(part)
			cost := c.needles(part) + max(fill(one).cost, fill(other).cost)
			if p.best == nil || cost < p.cost {
				p = plan{cost, c}
			}
		}
		all[part.W][part.H] = p
		return p
	}
	fill(b)
	return all
}
