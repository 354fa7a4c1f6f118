package squares

import (
	"math/bits"
	"slices"

	"congou/api"
)

// known is what is known of squares, of one line or of a whole board: which of
// them are filled and which are empty, none both.
type known struct{ filled, empty int }

// line is some squares and the ways in which they may be filled.
type line struct {
	squares int
	ways    []int
}

// Blocks returns the blocks of a line.
func Blocks(n, line int) ([]int, api.Errno) {
	if !areSets(n, line) {
		return nil, api.ErrArg
	}
	return blocks(line), api.OK
}

// Lines returns all lines with some blocks.
func Lines(n int, clue []int) ([]int, api.Errno) {
	if !isClue(n, clue) {
		return nil, api.ErrArg
	}
	return lines(n, clue), api.OK
}

// Tell returns what a line settles.
func Tell(n int, clue []int, filled, empty int) (int, int, api.Errno) {
	if !isClue(n, clue) || !areSets(n, filled, empty) || filled&empty != 0 {
		return 0, 0, api.ErrArg
	}
	l := line{squares: all(n), ways: lines(n, clue)}
	k, ok := l.settle(known{filled, empty})
	if !ok {
		return 0, 0, api.ErrNone
	}
	return k.filled, k.empty, api.OK
}

// settle returns what is known with what l settles; ok is false if l is broken.
func (l line) settle(k known) (settled known, ok bool) {
	filled, empty := l.squares, l.squares
	for _, way := range l.ways {
		if k.agrees(l.squares, way) {
			filled &= way
			empty &^= way
			ok = true
		}
	}
	if !ok {
		return known{}, false
	}
	return known{k.filled | filled, k.empty | empty}, true
}

// agrees reports whether way, of these squares, may be so by what is known.
func (k known) agrees(squares, way int) bool {
	return way&k.empty == 0 && squares&^way&k.filled == 0
}

// with returns what is known with these squares filled in this way.
func (k known) with(squares, way int) known {
	return known{k.filled | way, k.empty | squares&^way}
}

// lines returns all lines of n squares with the blocks of a clue.
func lines(n int, clue []int) []int {
	var list []int
	for l := range 1 << n {
		if slices.Equal(blocks(l), clue) {
			list = append(list, l)
		}
	}
	return list
}

func blocks(line int) []int {
	var list []int
	for line != 0 {
		line >>= bits.TrailingZeros(uint(line))
		block := bits.TrailingZeros(^uint(line))
		line >>= block
		list = append(list, block)
	}
	return list
}
