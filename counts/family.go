package counts

import "congou/api"

// Family returns all tables with the same sums as t, in order.
func Family(t [][]int) ([][][]int, api.Errno) {
	if !isTable(t) {
		return nil, api.ErrArg
	}
	return tablesOf(family(sums(keyOf(t))), t), api.OK
}

// Count returns how many tables have these sums of rows and of columns.
func Count(rows, columns []int) (int, api.Errno) {
	if !areCounts(rows, mostSum) || !areCounts(columns, mostSum) {
		return 0, api.ErrArg
	}
	return len(family(lineOf(rows), lineOf(columns))), api.OK
}

// family returns the keys of all tables with these sums, in order. Where the
// sums do not sum to the same there is none, as the last row is what the
// columns leave.
func family(rows, columns line) []key {
	var list []key
	for _, first := range parts(rows[0], columns) {
		left := columns.minus(first)
		for _, second := range parts(rows[1], left) {
			if third := left.minus(second); third.sum() == rows[2] {
				list = append(list, key{first, second, third})
			}
		}
	}
	return list
}

// parts returns, in order, all lines with this sum and with no number above
// that of highest.
func parts(sum int, highest line) []line {
	var list []line
	for a := range min(sum, highest[0]) + 1 {
		for b := range min(sum-a, highest[1]) + 1 {
			if c := sum - a - b; c <= highest[2] {
				list = append(list, line{a, b, c})
			}
		}
	}
	return list
}
