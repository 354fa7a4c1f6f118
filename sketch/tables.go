package sketch

import "congou/api"

// The limits of a table; maxNumber is that of two streams.
const (
	maxRows   = 4
	maxWidth  = 8
	maxNumber = 80
)

// Table returns the table of a stream with d rows of w numbers.
func Table(d, w int, stream []int) ([][]int, api.Errno) {
	if !isSize(d, w) || !isStream(stream) {
		return nil, api.ErrArg
	}
	t := emptyTable(d, w)
	for key, n := range tallyOf(stream) {
		for r, row := range t {
			row[place(r, key, w)] += n
		}
	}
	return t, api.OK
}

// Ask returns the least number at which a key counts. Other keys may count
// there too, so it may be too much, but never too little.
func Ask(t [][]int, key int) (int, api.Errno) {
	if !isTable(t) || !isKey(key) {
		return 0, api.ErrArg
	}
	least := maxNumber
	for r, row := range t {
		least = min(least, row[place(r, key, len(row))])
	}
	return least, api.OK
}

// Add returns the sum of two tables.
func Add(s, t [][]int) ([][]int, api.Errno) {
	if !isTable(s) || !isTable(t) || len(s) != len(t) || len(s[0]) != len(t[0]) {
		return nil, api.ErrArg
	}
	sum := emptyTable(len(s), len(s[0]))
	for r := range sum {
		for i := range sum[r] {
			n := s[r][i] + t[r][i]
			if n > maxNumber {
				return nil, api.ErrNone
			}
			sum[r][i] = n
		}
	}
	return sum, api.OK
}

// place returns the index at which a key counts in a row.
func place(row, key, width int) int {
	return (key*(row+1) + key/(row+2)) % width
}

func emptyTable(d, w int) [][]int {
	t := make([][]int, d)
	for r := range t {
		t[r] = make([]int, w)
	}
	return t
}

func isSize(d, w int) bool {
	return d >= 1 && d <= maxRows && w >= 1 && w <= maxWidth
}

func isTable(t [][]int) bool {
	if len(t) == 0 || !isSize(len(t), len(t[0])) {
		return false
	}
	for _, row := range t {
		if len(row) != len(t[0]) || !allWithin(row, 0, maxNumber) {
			return false
		}
	}
	return true
}
