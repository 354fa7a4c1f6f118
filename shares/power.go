package shares

import (
	"slices"

	"congou/api"
)

// The limits of Power, which keep its sum an int.
const (
	maxPowerShares = 4
	maxExponent    = 6
	maxBase        = 5
)

// Power returns the sum, over all orders p of the shares x, of the product of
// a[i] to the power of x[p[i]].
func Power(x, a []int) (int, api.Errno) {
	if !isShares(x) || len(x) > maxPowerShares || !allWithin(x, 0, maxExponent) {
		return 0, api.ErrArg
	}
	if len(a) != len(x) || !allWithin(a, 1, maxBase) {
		return 0, api.ErrArg
	}
	product := func(p []int) int {
		out := 1
		for i, base := range a {
			out *= raise(base, x[p[i]])
		}
		return out
	}
	return sumOverOrders(len(x), product), api.OK
}

// sumOverOrders returns the sum of the term of each order of n things.
func sumOverOrders(n int, term func(order []int) int) int {
	sum := 0
	for _, p := range orders(n) {
		sum += term(p)
	}
	return sum
}

func raise(base, exponent int) int {
	out := 1
	for range exponent {
		out *= base
	}
	return out
}

// orders returns all permutations of the numbers from 0 to n-1, rising, n
// from 1 on. They lie one behind the other in one slice; the third index keeps
// each of them from growing into the next one.
func orders(n int) [][]int {
	var flat []int
	order := make([]int, 0, n)
	var extend func()
	extend = func() {
		if len(order) == n {
			flat = append(flat, order...)
			return
		}
		for e := range n {
			if slices.Contains(order, e) {
				continue
			}
			order = append(order, e)
			extend()
			order = order[:len(order)-1]
		}
	}
	extend()
	var list [][]int
	for from := 0; from < len(flat); from += n {
		list = append(list, flat[from:from+n:from+n])
	}
	return list
}
