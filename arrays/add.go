package arrays

import (
	"slices"

	"congou/api"
)

// The most columns of an array to which rows are added, and, for Greedy, the most
// choices and the most columns together.
const (
	mostAddColumns     = 4
	mostGreedyChoices  = 3
	mostGreedyTogether = 2
)

// Add returns the best row more.
func Add(a Array, t int) ([]int, api.Errno) {
	if !isArray(a) || !a.isTogether(t) || a.columns() > mostAddColumns {
		return nil, api.ErrArg
	}
	return a.best(t), api.OK
}

// Greedy returns the array by adding rows.
func Greedy(v, k, t int) (Array, api.Errno) {
	if !isWithin(v, fewestChoices, mostGreedyChoices) || !isWithin(t, 1, mostGreedyTogether) || !isWithin(k, t, mostAddColumns) {
		return Array{}, api.ErrArg
	}
	a := Array{V: v, Rows: [][]int{make([]int, k)}}
	for !a.covers(t) {
		if len(a.Rows) == api.MaxTests {
			return Array{}, api.ErrSize
		}
		a.Rows = append(a.Rows, a.best(t))
	}
	return a, api.OK
}

// best returns the first row with which the most choices of t columns come that
// did not.
func (a Array) best(t int) []int {
	var best []int
	most := -1
	for row := range choices(a.V, a.columns()) {
		if n := a.gain(row, t); n > most {
			best, most = slices.Clone(row), n
		}
	}
	return best
}

// gain returns how many choices of t columns come with this row that did not.
func (a Array) gain(row []int, t int) int {
	n := 0
	for columns := range rising(a.columns(), t) {
		if a.times(columns, at(row, columns)) == 0 {
			n++
		}
	}
	return n
}
