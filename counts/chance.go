package counts

import (
	"slices"

	"congou/api"
)

// Chance returns how likely t is by chance.
func Chance(t [][]int) (api.Frac, api.Errno) {
	if !isTable(t) {
		return api.Frac{}, api.ErrArg
	}
	k := keyOf(t)
	_, columns := sums(k)
	return quotient(ways(k), orders(columns)), api.OK
}

// Tail returns the sum of the chances of all tables of the family that are at
// most as likely as t.
func Tail(t [][]int) (api.Frac, api.Errno) {
	if !isTable(t) {
		return api.Frac{}, api.ErrArg
	}
	k := keyOf(t)
	rows, columns := sums(k)
	highest, sum := ways(k), 0
	for _, other := range family(rows, columns) {
		if n := ways(other); n <= highest {
			sum += n
		}
	}
	return quotient(sum, orders(columns)), api.OK
}

// Off returns how far the numbers of t are from what is due there.
func Off(t [][]int) (api.Frac, api.Errno) {
	rows, columns, e := Sums(t)
	if e != api.OK {
		return api.Frac{}, e
	}
	if slices.Contains(rows, 0) || slices.Contains(columns, 0) {
		return api.Frac{}, api.ErrState
	}
	all := lineOf(rows).sum()
	off := quotient(0, 1)
	for i, row := range t {
		for j, n := range row {
			// all times what is due here, so that nothing is a fraction yet
			due := rows[i] * columns[j]
			lack := all*n - due
			off = plus(off, quotient(lack*lack, all*due))
		}
	}
	return off, api.OK
}

// ways returns in how many ways the items of the rows come to this table, of
// the orders of the sums of columns. This is the chance of the chapter with the
// factorials of each row taken together, so that no product is too great: it
// is at most 3^16.
func ways(k key) int {
	n := 1
	for _, row := range k {
		n *= orders(row)
	}
	return n
}

// orders returns in how many orders items come of which there are as many of
// each kind as l says.
func orders(l line) int {
	n := factorial(l.sum())
	for _, each := range l {
		n /= factorial(each)
	}
	return n
}

func factorial(n int) int {
	product := 1
	for i := range n {
		product *= i + 1
	}
	return product
}
