package squares

import "congou/api"

// Solve returns the first solution.
func Solve(p Puzzle) ([]int, api.Errno) {
	if !isPuzzle(p) {
		return nil, api.ErrArg
	}
	solutions := boardOf(p).solutions
	for picture := range solutions {
		return picture, api.OK
	}
	return nil, api.ErrNone
}

// Count returns how many solutions there are.
func Count(p Puzzle) (int, api.Errno) {
	if !isPuzzle(p) {
		return 0, api.ErrArg
	}
	return boardOf(p).count(), api.OK
}

// count returns how many solutions there are.
func (b board) count() int {
	n := 0
	for range b.solutions {
		n++
	}
	return n
}

// solutions yields all solutions, rising.
func (b board) solutions(yield func(picture []int) bool) {
	b.fill(known{}, 0, yield)
}

// fill yields all solutions that agree with what is known, which is all of the
// rows before this one, and reports whether to go on.
func (b board) fill(k known, row int, yield func(picture []int) bool) bool {
	if row == len(b.Rows) {
		return yield(b.rowsOf(k.filled))
	}
	l := b.lines[row]
	for _, way := range l.ways {
		after := k.with(l.squares, way)
		if b.isBroken(after) {
			continue
		}
		if !b.fill(after, row+1, yield) {
			return false
		}
	}
	return true
}

// isBroken reports whether a line is broken.
func (b board) isBroken(k known) bool {
	for _, l := range b.lines {
		if _, ok := l.settle(k); !ok {
			return true
		}
	}
	return false
}
