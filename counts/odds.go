package counts

import (
	"cmp"

	"congou/api"
)

// Odds returns the product of the numbers at (0, 0) and (1, 1), divided by that
// of the other two.
func Odds(t [][]int) (api.Frac, api.Errno) {
	if !isFourfold(t) {
		return api.Frac{}, api.ErrArg
	}
	if t[0][1] == 0 || t[1][0] == 0 {
		return api.Frac{}, api.ErrState
	}
	return quotient(t[0][0]*t[1][1], t[0][1]*t[1][0]), api.OK
}

// Hidden reports whether the sum of s and t says the contrary of what both say.
func Hidden(s, t [][]int) (bool, api.Errno) {
	if !isFourfold(s) || !isFourfold(t) {
		return false, api.ErrArg
	}
	both, e := Plus(s, t)
	if e != api.OK {
		return false, api.ErrState
	}
	var signs [3]int
	for i, table := range [3][][]int{s, t, both} {
		odds, e := Odds(table)
		if e != api.OK {
			return false, api.ErrState
		}
		signs[i] = cmp.Compare(odds.Num, odds.Den)
	}
	return signs == [3]int{1, 1, -1} || signs == [3]int{-1, -1, 1}, api.OK
}

// isFourfold reports whether t is a table with two rows and two columns.
func isFourfold(t [][]int) bool { return isTable(t) && len(t) == 2 && len(t[0]) == 2 }
