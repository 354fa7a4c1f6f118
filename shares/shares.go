// Package shares is layer 1: it compares how evenly leaves are shared. See
// shared/doc/01-shares.md.
package shares

import (
	"slices"

	"congou/api"
)

const maxShare = 20

// Give is how much goes from one share to another one.
type Give struct{ From, To, Much int }

// Uneven reports whether x is at least as uneven as y.
func Uneven(x, y []int) (bool, api.Errno) {
	if !areComparable(x, y) {
		return false, api.ErrArg
	}
	return dominates(falling(x), falling(y)), api.OK
}

// Gap returns the sum of the differences, without sign, of all pairs of shares.
func Gap(x []int) (int, api.Errno) {
	if !isShares(x) {
		return 0, api.ErrArg
	}
	sum := 0
	for i, one := range x {
		for _, other := range x[:i] {
			sum += max(one-other, other-one)
		}
	}
	return sum, api.OK
}

func isShares(x []int) bool {
	return len(x) >= 1 && len(x) <= api.MaxShares && allWithin(x, 0, maxShare)
}

func areComparable(x, y []int) bool {
	return isShares(x) && isShares(y) && len(x) == len(y)
}

func allWithin(list []int, low, high int) bool {
	for _, v := range list {
		if v < low || v > high {
			return false
		}
	}
	return true
}

func isFalling(list []int) bool {
	for i := 1; i < len(list); i++ {
		if list[i] > list[i-1] {
			return false
		}
	}
	return true
}

// falling returns the numbers of x from the greatest one to the least one.
func falling(x []int) []int {
	out := slices.Clone(x)
	slices.Sort(out)
	slices.Reverse(out)
	return out
}

// dominates reports whether x is at least as uneven as y, both falling and of
// one length: then the k greatest numbers are the first k.
func dominates(x, y []int) bool {
	ahead := 0
	for i := range x {
		ahead += x[i] - y[i]
		if ahead < 0 {
			return false
		}
	}
	return ahead == 0
}
