package curves_test

import (
	"fmt"
	"math"
	"math/big"
	"slices"
	"testing"

	"congou/api"
	"congou/curves"
)

func frac(num, den int) api.Frac { return api.Frac{Num: num, Den: den} }

func rat(f api.Frac) *big.Rat { return big.NewRat(int64(f.Num), int64(f.Den)) }

func whole(n int) *big.Rat { return big.NewRat(int64(n), 1) }

// isExact reports whether f is the valid Frac with the value r.
func isExact(f api.Frac, r *big.Rat) bool {
	return r.Num().IsInt64() && r.Denom().IsInt64() && int64(f.Num) == r.Num().Int64() && int64(f.Den) == r.Denom().Int64()
}

func areExact(l []api.Frac, want []*big.Rat) bool { return slices.EqualFunc(l, want, isExact) }

func show(c curves.Curve) string { return fmt.Sprintf("%d %v %v", c.Degree, c.Knots, c.Poles) }

func curve(degree int, knots, poles []int) curves.Curve {
	return curves.Curve{Degree: degree, Knots: knots, Poles: poles}
}

func clone(c curves.Curve) curves.Curve {
	return curve(c.Degree, slices.Clone(c.Knots), slices.Clone(c.Poles))
}

func equal(c, d curves.Curve) bool {
	return c.Degree == d.Degree && slices.Equal(c.Knots, d.Knots) && slices.Equal(c.Poles, d.Poles)
}

func isZero(c curves.Curve) bool { return c.Degree == 0 && len(c.Knots) == 0 && len(c.Poles) == 0 }

// line and hill are the curves of the chapter's examples.
func line() curves.Curve { return curve(1, []int{0, 0, 2, 2}, []int{1, 5}) }

func hill() curves.Curve { return curve(2, []int{0, 0, 0, 2, 2, 2}, []int{0, 4, 0}) }

// full has as many poles as a curve may have.
func full() curves.Curve {
	return curve(1, []int{0, 0, 1, 2, 3, 4, 4, 6, 7, 7}, []int{1, -2, 3, -4, 5, -6, 7, -8})
}

// times returns how often the number k is in the list.
func times(list []int, k int) int {
	n := 0
	for _, v := range list {
		if v == k {
			n++
		}
	}
	return n
}

// span returns the span of a curve.
func span(c curves.Curve) (int, int) { return c.Knots[c.Degree], c.Knots[len(c.Poles)] }

// someCurves are curves of all kinds, and such as a fixed walk comes to.
func someCurves() []curves.Curve {
	list := []curves.Curve{
		line(), hill(), full(),
		curve(0, []int{0, 12}, []int{-50}),
		curve(0, []int{3, 4, 7}, []int{2, -2}),
		curve(0, []int{0, 1, 2, 3, 4, 5, 6, 7, 12}, []int{1, -1, 0, 1, 0, -1, 0, 50}),
		curve(1, []int{0, 3, 4, 9}, []int{-7, 7}),                                       // knots before and behind the span
		curve(1, []int{2, 2, 5, 5, 8, 8}, []int{1, -1, 3, -3}),                          // a leap at 5
		curve(1, []int{0, 0, 1, 1, 2, 2, 3, 3, 4, 4}, []int{9, 8, -7, 6, -5, 4, 3, 2}),  // many leaps
		curve(1, []int{0, 1, 1, 2, 3}, []int{50, -50, 50}),                              // the first pole moves nothing
		curve(1, []int{0, 1, 2, 2, 3}, []int{50, -50, 50}),                              // nor does the last one
		curve(2, []int{0, 1, 2, 3, 4, 5}, []int{1, 1, 1}),                               // poles all the same
		curve(2, []int{0, 0, 0, 5, 5, 5, 12, 12, 12}, []int{50, -50, 50, -50, 50, -50}), // three times within
		curve(2, []int{0, 2, 2, 6, 6, 6, 7, 9}, []int{1, -3, 5, -7, 9}),                 // the span ends at a leap
		curve(2, []int{1, 4, 4, 4, 8, 11, 12, 12}, []int{0, -3, 0, 0, 9}),               // and begins at one
		curve(3, []int{0, 0, 0, 0, 12, 12, 12, 12}, []int{-50, 50, -50, 50}),            // one piece
		curve(3, []int{0, 1, 2, 3, 4, 5, 6, 7}, []int{3, 1, 4, 1}),                      // evenly
		curve(3, []int{0, 1, 3, 4, 7, 8, 11, 12}, []int{50, 49, -50, 47}),               // unevenly
		curve(3, []int{0, 0, 0, 0, 3, 5, 7, 11, 12, 12, 12, 12}, []int{1, 2, 3, 5, 7, 11, 13, 17}),
		curve(3, []int{0, 0, 0, 0, 1, 1, 1, 1, 2, 2, 2, 2}, []int{1, -1, 1, -1, 1, -1, 1, -1}),
	}
	return append(list, walkedCurves(150)...)
}

// walkedCurves returns n curves that a fixed walk comes to.
func walkedCurves(n int) []curves.Curve {
	next := walk(17)
	var list []curves.Curve
	for len(list) < n {
		c := curves.Curve{Degree: next(4)}
		poles := c.Degree + 1 + next(8-c.Degree)
		first, last := next(4), 8+next(5)
		low := next(2) * 50
		for range poles {
			c.Poles = append(c.Poles, max(next(101)-50, low-50))
		}
		for range poles + c.Degree + 1 {
			c.Knots = append(c.Knots, first+next(last-first+1))
		}
		slices.Sort(c.Knots)
		if isCurve(c) {
			list = append(list, c)
		}
	}
	return list
}

// walk returns a function that gives numbers below its argument.
func walk(state uint32) func(n int) int {
	return func(n int) int {
		state = state*1664525 + 1013904223
		return int(state>>16) % n
	}
}

// isCurve tests what a walk may miss.
func isCurve(c curves.Curve) bool {
	for _, k := range c.Knots {
		if times(c.Knots, k) > c.Degree+1 {
			return false
		}
	}
	begin, end := span(c)
	return begin < end
}

// notCurves are such as a curve may not be.
func notCurves() map[string]curves.Curve {
	many := make([]int, 10000)
	nine := []int{1, 2, 3, 4, 5, 6, 7, 8, 9}
	return map[string]curves.Curve{
		"nothing":                  {},
		"Degree -1":                curve(-1, []int{0}, []int{1}),
		"Degree -1, no pole":       curve(-1, []int{}, []int{}),
		"Degree 4":                 curve(4, []int{0, 0, 0, 0, 0, 2, 2, 2, 2, 2}, []int{1, 2, 3, 4, 5}),
		"the greatest Degree":      curve(math.MaxInt, []int{0, 1}, []int{1}),
		"the least Degree":         curve(math.MinInt, []int{0, 1}, []int{1}),
		"no pole":                  curve(0, []int{0}, nil),
		"as many poles as Degree":  curve(1, []int{0, 1, 2}, []int{1}),
		"too few poles":            curve(3, []int{0, 0, 0, 1, 1, 1, 2}, []int{1, 2, 3}),
		"nine poles":               curve(0, []int{0, 1, 2, 3, 4, 5, 6, 7, 8, 9}, nine),
		"nine poles of Degree 1":   curve(1, []int{0, 0, 1, 2, 3, 4, 5, 6, 7, 8, 8}, nine),
		"many poles":               curve(1, []int{0, 0, 2, 2}, many),
		"a pole 51":                curve(1, []int{0, 0, 2, 2}, []int{1, 51}),
		"a pole -51":               curve(1, []int{0, 0, 2, 2}, []int{-51, 1}),
		"the greatest pole":        curve(1, []int{0, 0, 2, 2}, []int{math.MaxInt, 1}),
		"the least pole":           curve(1, []int{0, 0, 2, 2}, []int{1, math.MinInt}),
		"no knots":                 curve(1, nil, []int{1, 5}),
		"a knot less":              curve(1, []int{0, 0, 2}, []int{1, 5}),
		"a knot more":              curve(1, []int{0, 0, 2, 2, 3}, []int{1, 5}),
		"many knots":               curve(1, many, []int{1, 5}),
		"a knot -1":                curve(1, []int{-1, 0, 2, 2}, []int{1, 5}),
		"a knot 13":                curve(1, []int{0, 0, 2, 13}, []int{1, 5}),
		"the least knot":           curve(1, []int{math.MinInt, 0, 2, 2}, []int{1, 5}),
		"the greatest knot":        curve(1, []int{0, 0, 2, math.MaxInt}, []int{1, 5}),
		"a knot less than before":  curve(1, []int{0, 2, 1, 3}, []int{1, 5}),
		"falling knots":            curve(1, []int{3, 2, 1, 0}, []int{1, 5}),
		"the last knot less":       curve(1, []int{0, 0, 2, 1}, []int{1, 5}),
		"the first knot greater":   curve(1, []int{1, 0, 2, 2}, []int{1, 5}),
		"twice of Degree 0":        curve(0, []int{0, 0, 1}, []int{1, 2}),
		"twice at the end":         curve(0, []int{0, 1, 1}, []int{1, 2}),
		"twice within":             curve(0, []int{0, 1, 1, 2}, []int{1, 2, 3}),
		"three times of Degree 1":  curve(1, []int{0, 0, 0, 2, 2}, []int{1, 2, 3}),
		"three times at the end":   curve(1, []int{0, 0, 2, 2, 2}, []int{1, 2, 3}),
		"three times within":       curve(1, []int{0, 0, 1, 1, 1, 2, 2}, []int{1, 2, 3, 4, 5}),
		"four times of Degree 2":   curve(2, []int{0, 1, 1, 1, 1, 2, 3}, []int{1, 2, 3, 4}),
		"five times of Degree 3":   curve(3, []int{0, 0, 0, 0, 0, 2, 2, 2, 2}, []int{1, 2, 3, 4, 5}),
		"no span":                  curve(1, []int{0, 1, 1, 2}, []int{1, 5}),
		"no span of Degree 2":      curve(2, []int{0, 1, 2, 2, 2, 3}, []int{1, 5, 1}),
		"no span of Degree 3":      curve(3, []int{0, 0, 1, 1, 1, 1, 2, 2}, []int{1, 5, 1, 2}),
		"one knot throughout":      curve(0, []int{4, 4}, []int{1}),
		"poles and knots confused": curve(1, []int{1, 5}, []int{0, 0, 2, 2}),
	}
}

// eachNotCurve calls f with what is no curve, and a copy of it must stay.
func eachNotCurve(t *testing.T, f func(name string, c curves.Curve)) {
	t.Helper()
	for name, c := range notCurves() {
		before := clone(c)
		f(name, c)
		if !equal(c, before) {
			t.Errorf("%s: %s became %s", name, show(before), show(c))
		}
	}
}

// places returns all t of a curve with a Den up to 12, rising, or those with
// one of the Dens.
func places(c curves.Curve, dens ...int) []api.Frac {
	begin, end := span(c)
	var list []api.Frac
	for den := 1; den <= 12; den++ {
		if len(dens) > 0 && !slices.Contains(dens, den) {
			continue
		}
		for num := begin * den; num <= end*den; num++ {
			if new(big.Int).GCD(nil, nil, big.NewInt(int64(num)), big.NewInt(int64(den))).Int64() == 1 {
				list = append(list, frac(num, den))
			}
		}
	}
	slices.SortFunc(list, func(a, b api.Frac) int { return rat(a).Cmp(rat(b)) })
	return list
}

// basicOf is the term of the chapter: the basic curve of the index i and the
// degree d of knots k, of which that at the index n ends the span.
func basicOf(k []int, n, i, d int, t *big.Rat) *big.Rat {
	if d == 0 {
		if isPieceOf(k, n, i, t) {
			return whole(1)
		}
		return whole(0)
	}
	sum := whole(0)
	if way := k[i+d] - k[i]; way != 0 {
		q := new(big.Rat).Sub(t, whole(k[i]))
		q.Quo(q, whole(way))
		sum.Add(sum, q.Mul(q, basicOf(k, n, i, d-1, t)))
	}
	if way := k[i+d+1] - k[i+1]; way != 0 {
		q := new(big.Rat).Sub(whole(k[i+d+1]), t)
		q.Quo(q, whole(way))
		sum.Add(sum, q.Mul(q, basicOf(k, n, i+1, d-1, t)))
	}
	return sum
}

func isPieceOf(k []int, n, i int, t *big.Rat) bool {
	if t.Cmp(whole(k[n])) < 0 {
		return t.Cmp(whole(k[i])) >= 0 && t.Cmp(whole(k[i+1])) < 0
	}
	last := -1
	for j := range n {
		if k[j] < k[j+1] {
			last = j
		}
	}
	return i == last
}

func basicsOf(c curves.Curve, t api.Frac) []*big.Rat {
	n := len(c.Poles)
	var list []*big.Rat
	for i := range n {
		list = append(list, basicOf(c.Knots, n, i, c.Degree, rat(t)))
	}
	return list
}

// weighed returns the sum of the weights times the basic curves at t, of the
// knots of a curve with as many poles.
func weighed(weights []*big.Rat, degree int, knots []int, t api.Frac) *big.Rat {
	sum := whole(0)
	for i, w := range weights {
		b := basicOf(knots, len(weights), i, degree, rat(t))
		sum.Add(sum, b.Mul(b, w))
	}
	return sum
}

func rats(l []api.Frac) []*big.Rat {
	var list []*big.Rat
	for _, f := range l {
		list = append(list, rat(f))
	}
	return list
}

func wholes(l []int) []*big.Rat {
	var list []*big.Rat
	for _, n := range l {
		list = append(list, whole(n))
	}
	return list
}

// value returns Value, which must be OK.
func value(t *testing.T, c curves.Curve, at api.Frac) *big.Rat {
	t.Helper()
	v, e := curves.Value(c, at)
	if e != api.OK || v.Den < 1 {
		t.Fatalf("Value(%s, %v) = %v, %v", show(c), at, v, e)
	}
	return rat(v)
}
