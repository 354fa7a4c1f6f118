package arrays

import (
	"slices"

	"congou/api"
)

// Distance returns the least distance of two rows.
func Distance(a Array) (int, api.Errno) {
	if !isArray(a) {
		return 0, api.ErrArg
	}
	if len(a.Rows) == 1 {
		return 0, api.ErrNone
	}
	least := a.columns()
	for i := range a.Rows {
		for j := range i {
			least = min(least, differing(a.Rows[i], a.Rows[j]))
		}
	}
	return least, api.OK
}

// Both returns all rows of two arrays.
func Both(a, b Array) (Array, api.Errno) {
	if !isArray(a) || !isArray(b) || a.V != b.V || a.columns() != b.columns() {
		return Array{}, api.ErrArg
	}
	if len(a.Rows)+len(b.Rows) > api.MaxTests {
		return Array{}, api.ErrSize
	}
	both := a.copied()
	both.Rows = append(both.Rows, b.copied().Rows...)
	return both, api.OK
}

// Drop returns an array without a column.
func Drop(a Array, c int) (Array, api.Errno) {
	if !isArray(a) || !a.isColumn(c) {
		return Array{}, api.ErrArg
	}
	if a.columns() == 1 {
		return Array{}, api.ErrNone
	}
	left := a.copied()
	for i, row := range left.Rows {
		left.Rows[i] = slices.Delete(row, c, c+1)
	}
	return left, api.OK
}

// Rename returns an array with the choices of a column renamed.
func Rename(a Array, c int, to []int) (Array, api.Errno) {
	if !isArray(a) || !a.isColumn(c) || !isEachOnce(to, a.V) {
		return Array{}, api.ErrArg
	}
	renamed := a.copied()
	for _, row := range renamed.Rows {
		row[c] = to[row[c]]
	}
	return renamed, api.OK
}

func (a Array) isColumn(c int) bool { return isWithin(c, 0, a.columns()-1) }

// isEachOnce reports whether a list has all choices below v, each once.
func isEachOnce(list []int, v int) bool {
	if len(list) != v {
		return false
	}
	for x := range v {
		if !slices.Contains(list, x) {
			return false
		}
	}
	return true
}

// differing returns in how many columns two rows differ.
func differing(s, t []int) int {
	n := 0
	for c := range s {
		if s[c] != t[c] {
			n++
		}
	}
	return n
}
