package shares_test

import (
	"math"
	"math/big"
	"slices"
	"testing"

	"congou/api"
	"congou/shares"
)

const maxDen = 10_000_000

// mixes reports whether m is a mixture that mixes x into y.
func mixes(x, y []int, m [][]api.Frac) bool {
	n := len(x)
	if len(m) != n {
		return false
	}
	one := big.NewRat(1, 1)
	columns := make([]*big.Rat, n)
	for j := range columns {
		columns[j] = new(big.Rat)
	}
	for i, row := range m {
		if len(row) != n {
			return false
		}
		sum, mixed := new(big.Rat), new(big.Rat)
		for j, f := range row {
			if !isFrac(f) || f.Num < 0 {
				return false
			}
			sum.Add(sum, rat(f))
			columns[j].Add(columns[j], rat(f))
			mixed.Add(mixed, new(big.Rat).Mul(rat(f), big.NewRat(int64(x[j]), 1)))
		}
		if sum.Cmp(one) != 0 || mixed.Cmp(big.NewRat(int64(y[i]), 1)) != 0 {
			return false
		}
	}
	return !slices.ContainsFunc(columns, func(r *big.Rat) bool { return r.Cmp(one) != 0 })
}

// P1.3 and P1.9: for all small shares.
func TestMixAll(t *testing.T) {
	for _, list := range [][][]int{allShares(1, 3), allShares(2, 7), allShares(3, 4), allShares(4, 2)} {
		for _, x := range list {
			for _, y := range list {
				m, e := shares.Mix(x, y)
				if !uneven(x, y) {
					if len(m) != 0 || e != api.ErrNone {
						t.Fatalf("Mix(%v, %v) = %v, %v", x, y, m, e)
					}
					continue
				}
				if e != api.OK || !mixes(x, y, m) {
					t.Fatalf("Mix(%v, %v) = %v, %v", x, y, m, e)
				}
				if ok, e := shares.CheckMix(x, y, m); !ok || e != api.OK {
					t.Fatalf("CheckMix(%v, %v, %v) = %v, %v", x, y, m, ok, e)
				}
			}
		}
	}
}

// P1.3: six shares, whose Dens must keep a common multiple up to 10^7.
func TestMixSix(t *testing.T) {
	tests := [][2][]int{
		{{20, 0, 0, 0, 0, 0}, {4, 4, 3, 3, 3, 3}},
		{{0, 19, 0, 1, 0, 0}, {3, 3, 3, 4, 4, 3}},
		{{20, 19, 17, 3, 1, 0}, {12, 9, 11, 10, 8, 10}},
		{{20, 18, 1, 1, 0, 0}, {7, 6, 8, 6, 7, 6}},
		{{19, 0, 0, 0, 0, 0}, {8, 5, 3, 1, 1, 1}},
		{{1, 3, 20, 17, 19, 0}, {10, 10, 10, 10, 10, 10}},
	}
	for _, c := range tests {
		x, y := c[0], c[1]
		m, e := shares.Mix(x, y)
		if e != api.OK || !mixes(x, y, m) || commonMultiple(slices.Concat(m...), maxDen) == 0 {
			t.Errorf("Mix(%v, %v) = %v, %v", x, y, m, e)
		}
		if ok, e := shares.CheckMix(x, y, m); !ok || e != api.OK {
			t.Errorf("CheckMix(%v, %v, %v) = %v, %v", x, y, m, ok, e)
		}
	}
}

// P1.3 and P1.9: a fixed walk over six shares of any size.
func TestMixWalk(t *testing.T) {
	state := uint32(1)
	next := func(n int) int {
		state = state*1664525 + 1013904223
		return int(state>>16) % n
	}
	for range 3000 {
		x := make([]int, 6)
		for i := range x {
			x[i] = next(21)
		}
		y := slices.Clone(x)
		for range 1 + next(8) {
			from, to := next(6), next(6)
			if half := (y[from] - y[to]) / 2; half >= 1 {
				much := 1 + next(half)
				y[from] -= much
				y[to] += much
			}
		}
		for i := range y {
			j := next(i + 1)
			y[i], y[j] = y[j], y[i]
		}
		m, e := shares.Mix(x, y)
		if e != api.OK || !mixes(x, y, m) {
			t.Fatalf("Mix(%v, %v) = %v, %v", x, y, m, e)
		}
		if ok, e := shares.CheckMix(x, y, m); !ok || e != api.OK {
			t.Fatalf("CheckMix(%v, %v, %v) = %v, %v", x, y, m, ok, e)
		}
	}
}

// P1.3: ErrArg is before ErrNone.
func TestMixErrors(t *testing.T) {
	one := matrix(1, frac(1, 1))
	for _, bad := range notShares() {
		good := make([]int, max(1, min(6, len(bad))))
		for _, c := range [][2][]int{{bad, good}, {good, bad}} {
			if m, e := shares.Mix(c[0], c[1]); len(m) != 0 || e != api.ErrArg {
				t.Errorf("Mix(%v, %v) = %v, %v", c[0], c[1], m, e)
			}
			if ok, e := shares.CheckMix(c[0], c[1], one); ok || e != api.ErrArg {
				t.Errorf("CheckMix(%v, %v) = %v, %v", c[0], c[1], ok, e)
			}
		}
	}
	if m, e := shares.Mix([]int{1}, []int{1, 0}); len(m) != 0 || e != api.ErrArg {
		t.Error(m, e)
	}
	if ok, e := shares.CheckMix([]int{1}, []int{1, 0}, one); ok || e != api.ErrArg {
		t.Error(ok, e)
	}
	for _, c := range [][2][]int{{{2, 1}, {3, 0}}, {{2, 1}, {2, 0}}, {{2, 0}, {2, 1}}} {
		if m, e := shares.Mix(c[0], c[1]); len(m) != 0 || e != api.ErrNone {
			t.Errorf("Mix(%v, %v) = %v, %v", c[0], c[1], m, e)
		}
	}
}

// pairOf is the mixture of two rows that exchanges num/den.
func pairOf(num, den int) [][]api.Frac {
	return matrix(2, frac(den-num, den), frac(num, den), frac(num, den), frac(den-num, den))
}

// blocks puts two mixtures of two rows into one of four rows.
func blocks(a, b [][]api.Frac) [][]api.Frac {
	zero := []api.Frac{frac(0, 1), frac(0, 1)}
	return [][]api.Frac{
		slices.Concat(a[0], zero), slices.Concat(a[1], zero),
		slices.Concat(zero, b[0]), slices.Concat(zero, b[1]),
	}
}

// P1.3
func TestCheckMix(t *testing.T) {
	half, zero, one := frac(1, 2), frac(0, 1), frac(1, 1)
	tests := []struct {
		name string
		x, y []int
		m    [][]api.Frac
		want bool
	}{
		{"a half", []int{3, 1}, []int{2, 2}, pairOf(1, 2), true},
		{"a third", []int{3, 0}, []int{2, 1}, pairOf(1, 3), true},
		{"exchanged", []int{3, 0}, []int{0, 3}, matrix(2, zero, one, one, zero), true},
		{"not exchanged", []int{3, 0}, []int{0, 3}, matrix(2, one, zero, zero, one), false},
		{"rows, not columns, are for y", []int{1, 2, 3}, []int{2, 3, 1}, matrix(3, zero, one, zero, zero, zero, one, one, zero, zero), true},
		{"turned over", []int{1, 2, 3}, []int{2, 3, 1}, matrix(3, zero, zero, one, one, zero, zero, zero, one, zero), false},
		{"another y", []int{3, 1}, []int{3, 1}, pairOf(1, 2), false},
		{"x and y exchanged", []int{2, 1}, []int{3, 0}, pairOf(1, 3), false},
		{"nil", []int{1}, []int{1}, nil, false},
		{"nil rows", []int{1, 1}, []int{1, 1}, make([][]api.Frac, 2), false},
		{"too few rows", []int{1, 1}, []int{1, 1}, matrix(1, one), false},
		{"too many rows", []int{1, 1}, []int{1, 1}, blocks(pairOf(1, 2), pairOf(1, 2)), false},
		{"a short row", []int{1, 1}, []int{1, 1}, [][]api.Frac{{one, zero}, {zero}}, false},
		{"a long row", []int{1, 1}, []int{1, 1}, [][]api.Frac{{one, zero, zero}, {zero, one}}, false},
		{"seven rows", []int{1}, []int{1}, make([][]api.Frac, 7), false},
		{"rows sum to 1", []int{2, 2}, []int{2, 2}, matrix(2, one, zero, one, zero), false},
		{"columns sum to 1", []int{0, 0}, []int{0, 0}, matrix(2, one, one, zero, zero), false},
		{"sums of a half", []int{0}, []int{0}, matrix(1, half), false},
		{"sums of two", []int{0}, []int{0}, matrix(1, frac(2, 1)), false},
		{"not in lowest terms", []int{1, 1}, []int{1, 1}, matrix(2, frac(2, 4), half, half, half), false},
		{"0/2", []int{1, 1}, []int{1, 1}, matrix(2, one, frac(0, 2), zero, one), false},
		{"0/0", []int{1, 1}, []int{1, 1}, matrix(2, one, frac(0, 0), zero, one), false},
		{"1/0", []int{0}, []int{0}, matrix(1, frac(1, 0)), false},
		{"-1/-1", []int{1}, []int{1}, matrix(1, frac(-1, -1)), false},
		{"below 0", []int{1, 1}, []int{1, 1}, matrix(2, frac(3, 2), frac(-1, 2), frac(-1, 2), frac(3, 2)), false},
		{"below 0 by more than 1", []int{1, 1}, []int{1, 1}, matrix(2, frac(8, 3), frac(-5, 3), frac(-5, 3), frac(8, 3)), false},
		{"least ints", []int{1}, []int{1}, matrix(1, frac(math.MinInt, math.MinInt)), false},
		{"greatest ints", []int{1}, []int{1}, matrix(1, frac(math.MaxInt, math.MaxInt)), false},
		{"MaxInt/1", []int{1}, []int{1}, matrix(1, frac(math.MaxInt, 1)), false},
		{"Den of 10^7", []int{1, 1}, []int{1, 1}, pairOf(1, maxDen), true},
		{"Den of 10^7+1", []int{1, 1}, []int{1, 1}, pairOf(1, maxDen+1), false},
		{"Den of MaxInt", []int{1, 1}, []int{1, 1}, pairOf(1, math.MaxInt), false},
		{"multiple of 10^7", []int{1, 1, 1, 1}, []int{1, 1, 1, 1}, blocks(pairOf(1, maxDen/2), pairOf(1, maxDen/5)), true},
		{"multiple of 1.5 10^7", []int{1, 1, 1, 1}, []int{1, 1, 1, 1}, blocks(pairOf(1, maxDen/2), pairOf(1, 3)), false},
		{"six", []int{20, 20, 20, 20, 20, 20}, []int{20, 20, 20, 20, 20, 20}, slices.Repeat([][]api.Frac{slices.Repeat([]api.Frac{frac(1, 6)}, 6)}, 6), true},
	}
	for _, c := range tests {
		if got, e := shares.CheckMix(c.x, c.y, c.m); got != c.want || e != api.OK {
			t.Errorf("%s: CheckMix(%v, %v, %v) = %v, %v", c.name, c.x, c.y, c.m, got, e)
		}
	}
}
