package pairs

import (
	"iter"
	"slices"

	"congou/api"
)

// IsRow reports whether a slice is a row.
func IsRow(s int, row []int) (bool, api.Errno) {
	if !isShift(s) || len(row) > 2*api.MaxPairs {
		return false, api.ErrArg
	}
	return isRow(s, row), api.OK
}

// First returns the first row.
func First(n, s int) ([]int, api.Errno) {
	if !isCount(n) || !isShift(s) {
		return nil, api.ErrArg
	}
	for row := range rows(n, s) {
		return slices.Clone(row), api.OK
	}
	return nil, api.ErrNone
}

// Count returns how many rows there are.
func Count(n, s int) (int, api.Errno) {
	if !isCount(n) || !isShift(s) {
		return 0, api.ErrArg
	}
	count := 0
	for range rows(n, s) {
		count++
	}
	return count, api.OK
}

// Places returns where the numbers of a row come first.
func Places(s int, row []int) ([]int, api.Errno) {
	if !isRow(s, row) {
		return nil, api.ErrArg
	}
	return places(row), api.OK
}

// Split returns the pairs of places of a row, counted from 1 on.
func Split(row []int) ([][2]int, api.Errno) {
	if !isRow(1, row) {
		return nil, api.ErrArg
	}
	var list [][2]int
	for i, place := range places(row) {
		k := i + 1
		list = append(list, [2]int{place + 1, place + 1 + k})
	}
	return list, api.OK
}

// Turn returns a row backward.
func Turn(s int, row []int) ([]int, api.Errno) {
	if !isRow(s, row) {
		return nil, api.ErrArg
	}
	turned := slices.Clone(row)
	slices.Reverse(turned)
	return turned, api.OK
}

// isCount reports whether there may be rows of n.
func isCount(n int) bool { return n >= 1 && n <= api.MaxPairs }

func isShift(s int) bool { return s == 1 || s == 2 }

func isRow(s int, row []int) bool {
	n := len(row) / 2
	if !isShift(s) || !isCount(n) || len(row) != 2*n {
		return false
	}
	// two places for each number are all places: nothing else is in the row, and
	// no number comes more often
	for k := 1; k <= n; k++ {
		first := slices.Index(row, k)
		second := first + k + s - 1
		if first < 0 || second >= len(row) || row[second] != k {
			return false
		}
	}
	return true
}

// places returns the index at which each number of a row comes first, from 1 on.
func places(row []int) []int {
	list := make([]int, len(row)/2)
	for i := range list {
		list[i] = slices.Index(row, i+1)
	}
	return list
}

// rows yields all rows of n, in order. What it yields is the same memory each
// time.
func rows(n, s int) iter.Seq[[]int] {
	return func(yield func(row []int) bool) {
		fill(s, make([]int, 2*n), yield)
	}
}

// fill yields, in order, all rows that this one can become, which has 0 where it
// is free, and reports whether to go on.
func fill(s int, row []int, yield func(row []int) bool) bool {
	first := slices.Index(row, 0)
	if first < 0 {
		return yield(row)
	}
	for k := 1; k <= len(row)/2; k++ {
		second := first + k + s - 1
		if second >= len(row) || row[second] != 0 || slices.Contains(row, k) {
			continue
		}
		row[first], row[second] = k, k
		if !fill(s, row, yield) {
			return false
		}
		row[first], row[second] = 0, 0
	}
	return true
}
