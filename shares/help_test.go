package shares_test

import (
	"math"
	"math/big"
	"slices"
	"testing"

	"congou/api"
)

func frac(num, den int) api.Frac { return api.Frac{Num: num, Den: den} }

func matrix(n int, list ...api.Frac) [][]api.Frac {
	var m [][]api.Frac
	for row := range slices.Chunk(list, n) {
		m = append(m, row)
	}
	return m
}

// notShares are slices that are no shares.
func notShares() [][]int {
	return [][]int{
		nil, {}, {-1}, {21}, {0, -1}, {21, 0}, {0, 0, 0, 0, 0, 0, 0},
		{math.MaxInt}, {math.MinInt}, {math.MaxInt, math.MinInt}, make([]int, 10000),
	}
}

// allShares returns all slices of n numbers from 0 to top.
func allShares(n, top int) [][]int {
	list := [][]int{{}}
	for range n {
		var longer [][]int
		for _, x := range list {
			for v := range top + 1 {
				longer = append(longer, append(slices.Clone(x), v))
			}
		}
		list = longer
	}
	return list
}

func allFalling(n, top int) [][]int {
	return slices.DeleteFunc(allShares(n, top), func(x []int) bool {
		return !slices.IsSortedFunc(x, func(a, b int) int { return b - a })
	})
}

// allParts returns all parts of n, falling.
func allParts(n int) [][]int {
	var list [][]int
	var extend func(rest, top int, head []int)
	extend = func(rest, top int, head []int) {
		if rest == 0 {
			list = append(list, slices.Clone(head))
		}
		for v := min(rest, top); v >= 1; v-- {
			extend(rest-v, v, append(head, v))
		}
	}
	extend(n, n, nil)
	return list
}

// greatest returns the greatest sum of k numbers of x, found among all choices.
func greatest(x []int, k int) int {
	best := math.MinInt
	for set := range 1 << len(x) {
		sum, size := 0, 0
		for i, v := range x {
			if set>>i&1 == 1 {
				sum += v
				size++
			}
		}
		if size == k {
			best = max(best, sum)
		}
	}
	return best
}

// uneven is the term of the chapter, word by word.
func uneven(x, y []int) bool {
	for k := range x {
		if greatest(x, k) < greatest(y, k) {
			return false
		}
	}
	return greatest(x, len(x)) == greatest(y, len(y))
}

// partsUneven is uneven for parts, with 0s behind them.
func partsUneven(a, b []int) bool {
	ahead := 0
	for i := range max(len(a), len(b)) {
		if i < len(a) {
			ahead += a[i]
		}
		if i < len(b) {
			ahead -= b[i]
		}
		if ahead < 0 {
			return false
		}
	}
	return ahead == 0
}

func rat(f api.Frac) *big.Rat { return big.NewRat(int64(f.Num), int64(f.Den)) }

func isFrac(f api.Frac) bool {
	if f.Den < 1 {
		return false
	}
	r := rat(f)
	return r.Num().Int64() == int64(f.Num) && r.Denom().Int64() == int64(f.Den)
}

// commonMultiple returns the least common multiple of the Dens, or 0 if it is
// above limit.
func commonMultiple(list []api.Frac, limit int) int {
	for n := 1; n <= limit; n++ {
		if !slices.ContainsFunc(list, func(f api.Frac) bool { return n%f.Den != 0 }) {
			return n
		}
	}
	return 0
}

// unchanged fails the test if f changes one of the slices.
func unchanged(t *testing.T, f func(), slicesOfInts ...[]int) {
	t.Helper()
	var before [][]int
	for _, x := range slicesOfInts {
		before = append(before, slices.Clone(x))
	}
	f()
	for i, x := range slicesOfInts {
		if !slices.Equal(x, before[i]) {
			t.Errorf("argument %v became %v", before[i], x)
		}
	}
}
