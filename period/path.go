package period

import "sort"

// neighbours are the fractions below and above on a path: the one that the next run
// moves, and the other one.
type neighbours struct{ moving, still fraction }

// start returns the first neighbours. The first run leads to the right, and moves the one below.
func start() neighbours { return neighbours{fraction{0, 1}, fraction{1, 0}} }

// moved returns the moving neighbour after so many moves of a run.
func (n neighbours) moved(moves int) fraction {
	return fraction{n.moving.Num + moves*n.still.Num, n.moving.Den + moves*n.still.Den}
}

// after returns the neighbours after a run.
func (n neighbours) after(moves int) neighbours { return neighbours{n.still, n.moved(moves)} }

// taken returns the fraction that is taken between the neighbours: where one more move leads.
func (n neighbours) taken() fraction { return n.moved(1) }

// walk follows a path in runs until it ends. For a fraction that is taken, toward returns
// 1 if the next move is to the right, -1 if it is to the left, and 0 at the end.
func walk(toward func(fraction) int) (runs []int, end fraction) {
	n := start()
	for side := 1; toward(n.taken()) != 0; side = -side {
		// A run can have so many moves that they are not made one by one. What is tried
		// instead has a Num and Den of at most about 10^12: products with an argument's fit.
		moves := sort.Search(MaxNum, func(k int) bool { return toward(n.moved(k+1)) != side })
		runs = append(runs, moves)
		n = n.after(moves)
	}
	return runs, n.taken()
}
