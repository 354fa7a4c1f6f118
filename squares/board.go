package squares

import "congou/api"

// board is a Puzzle with the lines of its rows, then those of its columns. The
// squares of all lines are numbered together, row by row.
type board struct {
	Puzzle
	lines []line
}

// Deduce returns what is known by lines alone.
func Deduce(p Puzzle) (filled, empty []int, e api.Errno) {
	if !isPuzzle(p) {
		return nil, nil, api.ErrArg
	}
	b := boardOf(p)
	k, ok := b.byLines(known{})
	if !ok {
		return nil, nil, api.ErrNone
	}
	return b.rowsOf(k.filled), b.rowsOf(k.empty), api.OK
}

// Try returns the depth with which a Puzzle is solved.
func Try(p Puzzle) (int, api.Errno) {
	if !isPuzzle(p) {
		return 0, api.ErrArg
	}
	b := boardOf(p)
	if b.count() != 1 {
		return 0, api.ErrNone
	}
	// this ends, as a depth of as many as there are squares settles all of them
	depth := 0
	for !b.isSolved(depth) {
		depth++
	}
	return depth, api.OK
}

func boardOf(p Puzzle) board {
	b := board{Puzzle: p}
	w, h := len(p.Columns), len(p.Rows)
	for r, clue := range p.Rows {
		b.lines = append(b.lines, lineOf(clue, w, r*w, 1))
	}
	for c, clue := range p.Columns {
		b.lines = append(b.lines, lineOf(clue, h, c, w))
	}
	return b
}

// lineOf returns the line of n squares of a board, from the first one on, each
// so many after the one before it.
func lineOf(clue []int, n, first, step int) line {
	spread := func(set int) int {
		squares := 0
		for i := range n {
			squares |= set >> i & 1 << (first + i*step)
		}
		return squares
	}
	l := line{squares: spread(all(n))}
	for _, way := range lines(n, clue) {
		l.ways = append(l.ways, spread(way))
	}
	return l
}

// rowsOf returns what of a set of squares is in each row.
func (b board) rowsOf(squares int) []int {
	var list []int
	w := len(b.Columns)
	for r := range b.Rows {
		list = append(list, squares>>(r*w)&all(w))
	}
	return list
}

// size returns how many squares there are.
func (b board) size() int { return len(b.Rows) * len(b.Columns) }

// isSolved reports whether all squares are settled with depths up to this one.
func (b board) isSolved(depth int) bool {
	k, _ := b.settle(known{}, depth)
	return k.filled|k.empty == all(b.size())
}

// byLines returns all that is known from k on by lines alone; ok is false if a
// line is broken.
func (b board) byLines(k known) (after known, ok bool) {
	for {
		before := k
		for _, l := range b.lines {
			if k, ok = l.settle(k); !ok {
				return known{}, false
			}
		}
		if k == before {
			return k, true
		}
	}
}

// settle returns all that is known from k on by settling with depths up to
// this one; ok is false if that leads to a broken line.
func (b board) settle(k known, depth int) (after known, ok bool) {
	for {
		if k, ok = b.byLines(k); !ok || depth == 0 {
			return k, ok
		}
		before := k
		for square := range b.size() {
			k = b.trySquare(k, 1<<square, depth)
		}
		if k == before {
			return k, true
		}
	}
}

// trySquare returns what is known with what trying settles of one square.
func (b board) trySquare(k known, square, depth int) known {
	if (k.filled|k.empty)&square != 0 {
		return k
	}
	for _, way := range []int{0, square} {
		if _, ok := b.settle(k.with(square, way), depth-1); !ok {
			return k.with(square, square&^way)
		}
	}
	return k
}
