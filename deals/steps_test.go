package deals_test

import (
	"math"
	"math/big"
	"testing"

	"congou/api"
	"congou/deals"
)

// eachLeft calls f with all that may be left.
func eachLeft(f func(p, q int)) {
	for q := 1; q <= 12; q++ {
		for p := range q {
			f(p, q)
		}
	}
}

// stepsOf is the sum of (-p/q)^i up to n: what the words of the chapter come to.
func stepsOf(n, p, q int) *big.Rat {
	sum, power := whole(0), whole(1)
	for range n + 1 {
		sum = plus(sum, power)
		power = times(power, big.NewRat(int64(-p), int64(q)))
	}
	return sum
}

// P5.4
func TestSteps(t *testing.T) {
	tests := []struct {
		n, p, q int
		want    api.Frac
	}{
		{1, 1, 2, frac(1, 2)},
		{2, 1, 2, frac(3, 4)},
		{3, 1, 2, frac(5, 8)},
		{0, 1, 2, frac(1, 1)},
		{0, 0, 1, frac(1, 1)},
		{1, 0, 1, frac(1, 1)},
		{8, 0, 12, frac(1, 1)},
		{1, 11, 12, frac(1, 12)},
		{2, 11, 12, frac(133, 144)},
		{1, 2, 4, frac(1, 2)},
		{2, 6, 12, frac(3, 4)},
		{8, 11, 12, frac(326857741, 429981696)},
	}
	for _, c := range tests {
		if got, e := deals.Steps(c.n, c.p, c.q); got != c.want || e != api.OK {
			t.Errorf("Steps(%v, %v, %v) = %v, %v", c.n, c.p, c.q, got, e)
		}
	}
}

// P5.4: for all arguments.
func TestStepsAll(t *testing.T) {
	eachLeft(func(p, q int) {
		for n := range 9 {
			if got, e := deals.Steps(n, p, q); !isExact(got, stepsOf(n, p, q)) || e != api.OK {
				t.Errorf("Steps(%v, %v, %v) = %v, %v", n, p, q, got, e)
			}
		}
		if got, e := deals.Forever(p, q); !isExact(got, big.NewRat(int64(q), int64(q+p))) || e != api.OK {
			t.Errorf("Forever(%v, %v) = %v, %v", p, q, got, e)
		}
	})
}

// P5.4
func TestForever(t *testing.T) {
	tests := []struct {
		p, q int
		want api.Frac
	}{
		{1, 2, frac(2, 3)}, {0, 1, frac(1, 1)}, {0, 12, frac(1, 1)}, {11, 12, frac(12, 23)}, {4, 8, frac(2, 3)}, {2, 10, frac(5, 6)},
	}
	for _, c := range tests {
		if got, e := deals.Forever(c.p, c.q); got != c.want || e != api.OK {
			t.Errorf("Forever(%v, %v) = %v, %v", c.p, c.q, got, e)
		}
	}
}

// P5.4
func TestStepsErrors(t *testing.T) {
	for _, n := range []int{-1, 9, math.MaxInt, math.MinInt} {
		if got, e := deals.Steps(n, 1, 2); got != (api.Frac{}) || e != api.ErrArg {
			t.Errorf("Steps(%v, 1, 2) = %v, %v", n, got, e)
		}
	}
	tests := [][2]int{
		{-1, 2}, {2, 2}, {3, 2}, {1, 1}, {12, 12}, {0, 0}, {-1, 0}, {0, -1}, {-2, -1}, {1, 13}, {0, 13},
		{math.MaxInt, 12}, {math.MinInt, 12}, {1, math.MaxInt}, {1, math.MinInt},
		{math.MaxInt, math.MaxInt}, {math.MinInt, math.MinInt},
	}
	for _, c := range tests {
		for _, n := range []int{0, 1, 8, 9} {
			if got, e := deals.Steps(n, c[0], c[1]); got != (api.Frac{}) || e != api.ErrArg {
				t.Errorf("Steps(%v, %v) = %v, %v", n, c, got, e)
			}
		}
		if got, e := deals.Forever(c[0], c[1]); got != (api.Frac{}) || e != api.ErrArg {
			t.Errorf("Forever(%v) = %v, %v", c, got, e)
		}
	}
}

// P5.12: Steps are from 0 to 1, at least Forever for n even, at most for n odd,
// and come nearer to it.
func TestStepsForever(t *testing.T) {
	steps := func(n, p, q int) *big.Rat {
		f, e := deals.Steps(n, p, q)
		if e != api.OK || f.Den < 1 {
			t.Fatalf("Steps(%v, %v, %v) = %v, %v", n, p, q, f, e)
		}
		return rat(f)
	}
	eachLeft(func(p, q int) {
		f, e := deals.Forever(p, q)
		if e != api.OK || f.Den < 1 {
			t.Fatalf("Forever(%v, %v) = %v, %v", p, q, f, e)
		}
		for n := range 9 {
			s := steps(n, p, q)
			far := minus(s, rat(f))
			if s.Sign() < 0 || s.Cmp(whole(1)) > 0 || n%2 == 0 && far.Sign() < 0 || n%2 == 1 && far.Sign() > 0 {
				t.Errorf("Steps(%v, %v, %v) is %v beside %v", n, p, q, s, f)
			}
			if n+2 > 8 {
				continue
			}
			later := minus(steps(n+2, p, q), rat(f))
			if later.Abs(later).Cmp(far.Abs(far)) > 0 {
				t.Errorf("Steps(%v, %v, %v) is farther from %v", n+2, p, q, f)
			}
		}
	})
}
