package arrays

import (
	"iter"
	"slices"

	"congou/api"
)

// The most columns together of which Missing says what does not come.
const mostMissing = 2

// Covers reports whether an array covers t columns.
func Covers(a Array, t int) (bool, api.Errno) {
	if !isArray(a) || !a.isTogether(t) {
		return false, api.ErrArg
	}
	return a.covers(t), api.OK
}

// Fair reports whether an array is fair for t.
func Fair(a Array, t int) (bool, api.Errno) {
	if !isArray(a) || !a.isTogether(t) {
		return false, api.ErrArg
	}
	return a.index(t) > 0, api.OK
}

// Missing returns what does not come: columns, and their choices behind them.
func Missing(a Array, t int) ([][]int, api.Errno) {
	if !isArray(a) || !a.isTogether(t) || t > mostMissing {
		return nil, api.ErrArg
	}
	var list [][]int
	for columns, choice := range a.settings(t) {
		if a.times(columns, choice) == 0 {
			list = append(list, slices.Concat(columns, choice))
		}
	}
	return list, api.OK
}

// Index returns how often each choice comes.
func Index(a Array, t int) (int, api.Errno) {
	if !isArray(a) || !a.isTogether(t) {
		return 0, api.ErrArg
	}
	n := a.index(t)
	if n == 0 {
		return 0, api.ErrNone
	}
	return n, api.OK
}

// Strength returns for how many columns an array is fair.
func Strength(a Array) (int, api.Errno) {
	if !isArray(a) {
		return 0, api.ErrArg
	}
	t := min(mostTogether, a.columns())
	for t > 0 && a.index(t) == 0 {
		t--
	}
	return t, api.OK
}

// settings yields, in order, all t columns, rising, with all choices of them.
func (a Array) settings(t int) iter.Seq2[[]int, []int] {
	return func(yield func(columns, choice []int) bool) {
		for columns := range rising(a.columns(), t) {
			for choice := range choices(a.V, t) {
				if !yield(columns, choice) {
					return
				}
			}
		}
	}
}

func (a Array) covers(t int) bool {
	for columns, choice := range a.settings(t) {
		if a.times(columns, choice) == 0 {
			return false
		}
	}
	return true
}

// index returns in how many rows each choice of t columns comes, 0 if the array
// is not fair.
func (a Array) index(t int) int {
	n := len(a.Rows)
	for range t {
		n /= a.V
	}
	for columns, choice := range a.settings(t) {
		if a.times(columns, choice) != n {
			return 0
		}
	}
	return n
}

// times returns in how many rows this choice of these columns comes.
func (a Array) times(columns, choice []int) int {
	n := 0
	for _, row := range a.Rows {
		if slices.Equal(at(row, columns), choice) {
			n++
		}
	}
	return n
}

// at returns what a row has in these columns.
func at(row, columns []int) []int {
	list := make([]int, len(columns))
	for i, c := range columns {
		list[i] = row[c]
	}
	return list
}
