package pairs

import (
	"math/bits"
	"slices"

	"congou/api"
)

// How few and how many players there may be in threes.
const (
	fewestInThrees = 3
	mostInThrees   = 9
)

// Threes returns the first threes.
func Threes(v int) ([][3]int, api.Errno) {
	if !isThreesCount(v) {
		return nil, api.ErrArg
	}
	list, ok := finish(v, allApart(v), nil)
	if !ok {
		return nil, api.ErrNone
	}
	return list, api.OK
}

// IsThrees reports whether l are threes.
func IsThrees(v int, l [][3]int) (bool, api.Errno) {
	if !isThreesCount(v) {
		return false, api.ErrArg
	}
	return areThrees(v, l), api.OK
}

// Spreads returns all spreads of threes.
func Spreads(v int, l [][3]int) ([][]int, api.Errno) {
	if !isThreesCount(v) || !areThrees(v, l) {
		return nil, api.ErrArg
	}
	return spreadsFrom(v, l, nil, 0), api.OK
}

func isThreesCount(v int) bool { return v >= fewestInThrees && v <= mostInThrees }

func areThrees(v int, l [][3]int) bool {
	left := allApart(v)
	for _, t := range l {
		if !left.meet(pairsOf(t)...) {
			return false
		}
	}
	return len(left) == 0 && areOrdered(l)
}

// pairsOf returns the pairs of players who are together in a triple.
func pairsOf(t [3]int) [][2]int {
	return [][2]int{{t[0], t[1]}, {t[0], t[2]}, {t[1], t[2]}}
}

// finish returns the first threes that begin with these, where left are the
// pairs that are not in them. If there are none, left stays.
func finish(v int, left apart, begun [][3]int) (list [][3]int, ok bool) {
	if len(left) == 0 {
		return begun, true
	}
	// the next triple begins with the first pair that is left: all triples that
	// are still to come have pairs that are left only
	p := left.first(v)
	for c := p[1] + 1; c < v; c++ {
		t := [3]int{p[0], p[1], c}
		if !left.meet(pairsOf(t)...) {
			continue
		}
		if list, ok := finish(v, left, append(begun, t)); ok {
			return list, true
		}
		left.part(pairsOf(t)...)
	}
	return nil, false
}

// first returns the first pair that is left, of at least one.
func (left apart) first(players int) [2]int {
	for a := range players {
		for b := range players {
			if left[[2]int{a, b}] {
				return [2]int{a, b}
			}
		}
	}
	return [2]int{}
}

// spreadsFrom returns all spreads, in order, that begin with these indices of
// triples; met is the set of the players in them.
func spreadsFrom(v int, l [][3]int, begun []int, met int) [][]int {
	if met == 1<<v-1 {
		return [][]int{begun}
	}
	// triples are in order: the next one of a spread begins with the first player
	// who is in none before it
	first := bits.TrailingZeros(^uint(met))
	var list [][]int
	for i, t := range l {
		set := 1<<t[0] | 1<<t[1] | 1<<t[2]
		if t[0] == first && met&set == 0 {
			list = append(list, spreadsFrom(v, l, append(slices.Clone(begun), i), met|set)...)
		}
	}
	return list
}
