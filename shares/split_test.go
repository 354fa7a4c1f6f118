package shares_test

import (
	"math"
	"math/big"
	"slices"
	"testing"

	"congou/api"
	"congou/shares"
)

func isPermutation(p []int, n int) bool {
	sorted := slices.Sorted(slices.Values(p))
	for i, v := range sorted {
		if i != v {
			return false
		}
	}
	return len(p) == n
}

// splits reports whether p and w are what Split of m promises.
func splits(m [][]api.Frac, p [][]int, w []api.Frac) bool {
	n := len(m)
	if len(p) != len(w) || len(p) > 100 {
		return false
	}
	sums := make([]*big.Rat, n*n)
	for i := range sums {
		sums[i] = new(big.Rat)
	}
	for k, f := range w {
		if !isFrac(f) || f.Num < 1 || !isPermutation(p[k], n) {
			return false
		}
		for i, j := range p[k] {
			sums[n*i+j].Add(sums[n*i+j], rat(f))
		}
	}
	for i, f := range slices.Concat(m...) {
		if sums[i].Cmp(rat(f)) != 0 {
			return false
		}
	}
	return commonMultiple(w, maxDen) != 0
}

func testSplit(t *testing.T, m [][]api.Frac) {
	t.Helper()
	var before [][]api.Frac
	for _, row := range m {
		before = append(before, slices.Clone(row))
	}
	p, w, e := shares.Split(m)
	if e != api.OK || !splits(m, p, w) {
		t.Errorf("Split(%v) = %v, %v, %v", m, p, w, e)
	}
	if ok, e := shares.CheckSplit(m, p, w); !ok || e != api.OK {
		t.Errorf("CheckSplit(%v, %v, %v) = %v, %v", m, p, w, ok, e)
	}
	if !slices.EqualFunc(m, before, slices.Equal) {
		t.Errorf("%v became %v", before, m)
	}
	for i := range p { // no permutation has the memory of another one
		_ = append(p[i], -1)
		p[i][0] = -1
		for _, other := range p[i+1:] {
			if !isPermutation(other, len(m)) {
				t.Errorf("Split(%v): permutations share memory", m)
			}
		}
	}
}

// P1.4 and P1.9
func TestSplit(t *testing.T) {
	tests := [][][]api.Frac{
		matrix(1, frac(1, 1)),
		matrix(2, frac(1, 1), frac(0, 1), frac(0, 1), frac(1, 1)),
		matrix(2, frac(0, 1), frac(1, 1), frac(1, 1), frac(0, 1)),
		pairOf(1, 2), pairOf(1, 10000), pairOf(3333, 10000),
		blocks(pairOf(1, 16), pairOf(1, 625)),
		matrix(3, frac(1, 2), frac(1, 2), frac(0, 1), frac(1, 3), frac(1, 3), frac(1, 3), frac(1, 6), frac(1, 6), frac(2, 3)),
		slices.Repeat([][]api.Frac{slices.Repeat([]api.Frac{frac(1, 5)}, 5)}, 5),
	}
	for _, m := range tests {
		testSplit(t, m)
	}
}

// P1.4: mixtures of five rows made of permutations, by a fixed walk.
func TestSplitWalk(t *testing.T) {
	state := uint32(7)
	next := func(n int) int {
		state = state*1664525 + 1013904223
		return int(state>>16) % n
	}
	for range 300 {
		size, den := 1+next(5), 1+next(10000)
		nums := make([][]int, size)
		for i := range nums {
			nums[i] = make([]int, size)
		}
		order := make([]int, size)
		for i := range order {
			order[i] = i
		}
		for rest := den; rest > 0; {
			for i := range order {
				j := next(i + 1)
				order[i], order[j] = order[j], order[i]
			}
			much := 1 + next(rest)
			for i, j := range order {
				nums[i][j] += much
			}
			rest -= much
		}
		m := make([][]api.Frac, size)
		for i, row := range nums {
			for _, n := range row {
				r := big.NewRat(int64(n), int64(den))
				m[i] = append(m[i], frac(int(r.Num().Int64()), int(r.Denom().Int64())))
			}
		}
		testSplit(t, m)
	}
}

func notMixtures() map[string][][]api.Frac {
	half, zero, one := frac(1, 2), frac(0, 1), frac(1, 1)
	six := make([][]api.Frac, 6)
	for i := range six {
		six[i] = slices.Repeat([]api.Frac{zero}, 6)
		six[i][i] = one
	}
	return map[string][][]api.Frac{
		"nil":                  nil,
		"empty":                {},
		"an empty row":         {{}},
		"nil rows":             make([][]api.Frac, 3),
		"six rows":             six,
		"many rows":            make([][]api.Frac, 1000),
		"a half":               {{half}},
		"a short row":          {{one, zero}, {zero}},
		"a long row":           {{one}, {zero, one}},
		"one row":              {{half, half}},
		"columns of other sum": matrix(2, one, zero, one, zero),
		"rows of other sum":    matrix(2, one, one, zero, zero),
		"2/4":                  matrix(2, frac(2, 4), half, half, half),
		"0/2":                  matrix(2, one, frac(0, 2), zero, one),
		"0/0":                  matrix(2, one, frac(0, 0), zero, one),
		"-1/-1":                {{frac(-1, -1)}},
		"below 0":              matrix(2, frac(3, 2), frac(-1, 2), frac(-1, 2), frac(3, 2)),
		"below 0 by more":      matrix(2, frac(8, 3), frac(-5, 3), frac(-5, 3), frac(8, 3)),
		"least ints":           {{frac(math.MinInt, math.MinInt)}},
		"greatest ints":        {{frac(math.MaxInt, math.MaxInt)}},
		"Den of 10001":         pairOf(1, 10001),
		"Den of MaxInt":        pairOf(1, math.MaxInt),
		"multiple of 15000":    blocks(pairOf(1, 5000), pairOf(1, 3)),
	}
}

// P1.4
func TestSplitErrors(t *testing.T) {
	for name, m := range notMixtures() {
		if p, w, e := shares.Split(m); len(p) != 0 || len(w) != 0 || e != api.ErrArg {
			t.Errorf("%s: Split = %v, %v, %v", name, p, w, e)
		}
		if ok, e := shares.CheckSplit(m, [][]int{{0}}, []api.Frac{frac(1, 1)}); ok || e != api.ErrArg {
			t.Errorf("%s: CheckSplit = %v, %v", name, ok, e)
		}
		if ok, e := shares.CheckSplit(m, nil, nil); ok || e != api.ErrArg {
			t.Errorf("%s: CheckSplit = %v, %v", name, ok, e)
		}
	}
}

// P1.4
func TestCheckSplit(t *testing.T) {
	half, third, one := frac(1, 2), frac(1, 3), frac(1, 1)
	whole := matrix(1, one)
	three := matrix(3, frac(0, 1), one, frac(0, 1), frac(0, 1), frac(0, 1), one, one, frac(0, 1), frac(0, 1))
	many := func(n int) ([][]int, []api.Frac) {
		return slices.Repeat([][]int{{0}}, n), slices.Repeat([]api.Frac{frac(1, n)}, n)
	}
	hundred, hundredths := many(100)
	above, parts := many(101)
	tests := []struct {
		name string
		m    [][]api.Frac
		p    [][]int
		w    []api.Frac
		want bool
	}{
		{"two halves", pairOf(1, 2), [][]int{{0, 1}, {1, 0}}, []api.Frac{half, half}, true},
		{"a third", pairOf(1, 3), [][]int{{0, 1}, {1, 0}}, []api.Frac{frac(2, 3), third}, true},
		{"exchanged", pairOf(1, 3), [][]int{{0, 1}, {1, 0}}, []api.Frac{third, frac(2, 3)}, false},
		{"p[i] is a column", three, [][]int{{1, 2, 0}}, []api.Frac{one}, true},
		{"p[j] is no row", three, [][]int{{2, 0, 1}}, []api.Frac{one}, false},
		{"one twice", pairOf(1, 2), [][]int{{0, 1}, {1, 0}, {1, 0}}, []api.Frac{half, frac(1, 4), frac(1, 4)}, true},
		{"nil", whole, nil, nil, false},
		{"no Fracs", whole, [][]int{{0}}, nil, false},
		{"no permutations", whole, nil, []api.Frac{one}, false},
		{"more permutations", whole, [][]int{{0}, {0}}, []api.Frac{one}, false},
		{"more Fracs", whole, [][]int{{0}}, []api.Frac{half, half}, false},
		{"sum of a half", whole, [][]int{{0}}, []api.Frac{half}, false},
		{"sum of two", whole, [][]int{{0}, {0}}, []api.Frac{one, one}, false},
		{"a Frac of 0", whole, [][]int{{0}, {0}}, []api.Frac{one, frac(0, 1)}, false},
		{"below 0", whole, [][]int{{0}, {0}}, []api.Frac{frac(3, 2), frac(-1, 2)}, false},
		{"below 0 and 1", whole, [][]int{{0}, {0}, {0}}, []api.Frac{one, half, frac(-1, 2)}, false},
		{"2/2", whole, [][]int{{0}}, []api.Frac{frac(2, 2)}, false},
		{"1/0", whole, [][]int{{0}}, []api.Frac{frac(1, 0)}, false},
		{"-1/-1", whole, [][]int{{0}}, []api.Frac{frac(-1, -1)}, false},
		{"least ints", whole, [][]int{{0}}, []api.Frac{frac(math.MinInt, math.MinInt)}, false},
		{"nil permutation", whole, [][]int{nil}, []api.Frac{one}, false},
		{"long permutation", whole, [][]int{{0, 1}}, []api.Frac{one}, false},
		{"short permutation", pairOf(1, 2), [][]int{{0}, {1, 0}}, []api.Frac{half, half}, false},
		{"a number twice", pairOf(1, 2), [][]int{{0, 0}, {1, 1}}, []api.Frac{half, half}, false},
		{"a number too large", whole, [][]int{{1}}, []api.Frac{one}, false},
		{"below 0", whole, [][]int{{-1}}, []api.Frac{one}, false},
		{"any size", pairOf(1, 2), [][]int{{math.MinInt, math.MaxInt}, {1, 0}}, []api.Frac{half, half}, false},
		{"100 permutations", whole, hundred, hundredths, true},
		{"101 permutations", whole, above, parts, false},
		{"Den of 10^7", whole, [][]int{{0}, {0}}, []api.Frac{frac(1, maxDen), frac(maxDen-1, maxDen)}, true},
		{"Den of 10^7+1", whole, [][]int{{0}, {0}}, []api.Frac{frac(1, maxDen+1), frac(maxDen, maxDen+1)}, false},
		{"multiple of 10^7", whole, [][]int{{0}, {0}, {0}, {0}}, []api.Frac{frac(1, maxDen), frac(maxDen/2-1, maxDen), frac(1, 4), frac(1, 4)}, true},
		{"multiple of 1.5 10^7", whole, [][]int{{0}, {0}, {0}, {0}}, []api.Frac{frac(1, maxDen/2), frac(maxDen/4-1, maxDen/2), frac(1, 6), third}, false},
	}
	for _, c := range tests {
		if got, e := shares.CheckSplit(c.m, c.p, c.w); got != c.want || e != api.OK {
			t.Errorf("%s: CheckSplit(%v, %v, %v) = %v, %v", c.name, c.m, c.p, c.w, got, e)
		}
	}
}
