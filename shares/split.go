package shares

import (
	"slices"

	"congou/api"
)

const (
	maxSplitRows    = 5
	maxPermutations = 100
)

// Split returns permutations and Fracs that the mixture m is made of.
//
// It goes through the permutations once and takes as much of each one as the
// rest of m has: that leaves a 0 on it, so it need not be tried anew. By
// Birkhoff's theorem a rest above 0 with equal sums would have a permutation
// without 0s, so nothing is left behind the last one. Each one that is taken
// makes a number of m 0, so there are at most 25.
func Split(m [][]api.Frac) ([][]int, []api.Frac, api.Errno) {
	rest, ok := readSplittable(m)
	if !ok {
		return nil, nil, api.ErrArg
	}
	var perms [][]int
	var weights []api.Frac
	for _, p := range orders(len(m)) {
		if n := rest.takeAll(p); n > 0 {
			perms = append(perms, slices.Clone(p))
			weights = append(weights, fraction(n, rest.den))
		}
	}
	return perms, weights, api.OK
}

// CheckSplit reports whether the mixture m is made of the permutations p with
// the Fracs w.
func CheckSplit(m [][]api.Frac, p [][]int, w []api.Frac) (bool, api.Errno) {
	t, ok := readSplittable(m)
	if !ok {
		return false, api.ErrArg
	}
	if len(p) != len(w) || len(p) > maxPermutations {
		return false, api.OK
	}
	den, ok := commonDen(w, maxDen)
	if !ok {
		return false, api.OK
	}
	sums := make([][]int, len(m))
	for i := range sums {
		sums[i] = make([]int, len(m))
	}
	for k, n := range numerators(w, den) {
		if n == 0 || !isPermutation(p[k], len(m)) {
			return false, api.OK
		}
		for i, j := range p[k] {
			sums[i][j] += n
		}
	}
	return t.equals(table{num: sums, den: den}), api.OK
}

func readSplittable(m [][]api.Frac) (table, bool) {
	if len(m) > maxSplitRows {
		return table{}, false
	}
	return readMixture(m, maxSplitDen)
}

// takeAll takes from each number on the permutation p the least one of them,
// and returns it.
func (t table) takeAll(p []int) int {
	least := t.den
	for i, j := range p {
		least = min(least, t.num[i][j])
	}
	for i, j := range p {
		t.num[i][j] -= least
	}
	return least
}

// equals reports whether two tables of one size have the same fractions.
func (t table) equals(u table) bool {
	for i, row := range t.num {
		for j, n := range row {
			if n*u.den != u.num[i][j]*t.den {
				return false
			}
		}
	}
	return true
}

func isPermutation(p []int, n int) bool {
	if len(p) != n || !allWithin(p, 0, n-1) {
		return false
	}
	seen := 0
	for _, e := range p {
		seen |= 1 << e
	}
	return seen == 1<<n-1
}
