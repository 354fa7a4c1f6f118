package curves_test

import (
	"math"
	"math/big"
	"slices"
	"testing"

	"congou/api"
	"congou/curves"
)

// P4.3
func TestInsert(t *testing.T) {
	leap := curve(1, []int{2, 2, 5, 5, 8, 8}, []int{1, -1, 3, -3})
	tests := []struct {
		c    curves.Curve
		k    int
		want []api.Frac
	}{
		{line(), 1, []api.Frac{frac(1, 1), frac(3, 1), frac(5, 1)}},
		{hill(), 1, []api.Frac{frac(0, 1), frac(2, 1), frac(2, 1), frac(0, 1)}},
		{curve(0, []int{3, 6}, []int{7}), 4, []api.Frac{frac(7, 1), frac(7, 1)}},
		{curve(0, []int{3, 5, 7}, []int{7, 8}), 4, []api.Frac{frac(7, 1), frac(7, 1), frac(8, 1)}},
		{curve(0, []int{3, 5, 7}, []int{7, 8}), 6, []api.Frac{frac(7, 1), frac(8, 1), frac(8, 1)}},
		{leap, 4, []api.Frac{frac(1, 1), frac(-1, 3), frac(-1, 1), frac(3, 1), frac(-3, 1)}},
		{leap, 6, []api.Frac{frac(1, 1), frac(-1, 1), frac(3, 1), frac(1, 1), frac(-3, 1)}},
		{curve(1, []int{0, 3, 7, 9}, []int{1, -2}), 3, []api.Frac{frac(1, 1), frac(1, 1), frac(-2, 1)}},                 // the beginning of the span
		{curve(1, []int{0, 3, 7, 9}, []int{1, -2}), 6, []api.Frac{frac(1, 1), frac(-5, 4), frac(-2, 1)}},                // up to its end
		{curve(1, []int{0, 0, 2, 4, 4}, []int{1, 3, 9}), 2, []api.Frac{frac(1, 1), frac(3, 1), frac(3, 1), frac(9, 1)}}, // a knot that is there already
		{curve(2, []int{0, 1, 2, 3, 4, 5}, []int{1, 3, 9}), 2, []api.Frac{frac(1, 1), frac(2, 1), frac(3, 1), frac(9, 1)}},
		{curve(2, []int{0, 0, 0, 3, 6, 6, 6}, []int{1, 4, 0, 12}), 4, []api.Frac{frac(1, 1), frac(4, 1), frac(4, 3), frac(4, 1), frac(12, 1)}},
		{curve(3, []int{0, 0, 0, 0, 12, 12, 12, 12}, []int{0, 12, -12, 50}), 5, []api.Frac{frac(0, 1), frac(5, 1), frac(2, 1), frac(83, 6), frac(50, 1)}},
		{curve(3, []int{0, 1, 3, 4, 7, 8, 11, 12}, []int{50, 49, -50, 47}), 6, []api.Frac{frac(50, 1), frac(295, 6), frac(-52, 5), frac(-156, 7), frac(47, 1)}},
	}
	for _, c := range tests {
		if got, e := curves.Insert(c.c, c.k); !slices.Equal(got, c.want) || e != api.OK {
			t.Errorf("Insert(%s, %v) = %v, %v", show(c.c), c.k, got, e)
		}
	}
}

// insertedPoles is the term of the chapter.
func insertedPoles(c curves.Curve, k int) []*big.Rat {
	j := 0
	for i, knot := range c.Knots {
		if knot <= k {
			j = i
		}
	}
	var list []*big.Rat
	for i := range len(c.Poles) + 1 {
		a := whole(0)
		if i <= j-c.Degree {
			a = whole(1)
		} else if i <= j {
			a = big.NewRat(int64(k-c.Knots[i]), int64(c.Knots[i+c.Degree]-c.Knots[i]))
		}
		pole := whole(0)
		if a.Sign() != 0 {
			pole.Mul(a, whole(c.Poles[i]))
		}
		if rest := new(big.Rat).Sub(whole(1), a); rest.Sign() != 0 {
			pole.Add(pole, rest.Mul(rest, whole(c.Poles[i-1])))
		}
		list = append(list, pole)
	}
	return list
}

// P4.3 and P4.10: for every k within the span the term itself, and the same
// curve as before.
func TestInsertAll(t *testing.T) {
	inserted, sized, none := 0, 0, 0
	for _, c := range someCurves() {
		before := clone(c)
		begin, end := span(c)
		for k := begin; k < end; k++ {
			got, e := curves.Insert(c, k)
			want := api.OK
			if times(c.Knots, k) == c.Degree+1 {
				want = api.ErrNone
				none++
			}
			if len(c.Poles) == 8 {
				want = api.ErrSize
				sized++
			}
			if e != want || e != api.OK && len(got) != 0 {
				t.Fatalf("Insert(%s, %v) = %v, %v", show(c), k, got, e)
			}
			if e != api.OK {
				continue
			}
			inserted++
			if !areExact(got, insertedPoles(c, k)) {
				t.Fatalf("Insert(%s, %v) = %v", show(c), k, got)
			}
			testSameCurve(t, c, k, got)
		}
		if !equal(c, before) {
			t.Fatalf("%s became %s", show(before), show(c))
		}
	}
	if inserted < 300 || sized < 100 || none < 30 {
		t.Error(inserted, sized, none)
	}
}

// testSameCurve tests that the poles with the longer knots make the Value of
// the curve, by the term and by Basic.
func testSameCurve(t *testing.T, c curves.Curve, k int, poles []api.Frac) {
	t.Helper()
	longer := append(slices.Clone(c.Knots), k)
	slices.Sort(longer)
	for _, at := range places(c, 1, 2, 11) {
		want := value(t, c, at)
		if got := weighed(rats(poles), c.Degree, longer, at); got.Cmp(want) != 0 {
			t.Fatalf("Insert(%s, %v) = %v: %v at %v", show(c), k, poles, got, at)
		}
		list, e := curves.Basic(curve(c.Degree, longer, make([]int, len(poles))), at)
		if e != api.OK {
			t.Fatalf("Basic of %v: %v", longer, e)
		}
		sum := whole(0)
		for i, b := range list {
			sum.Add(sum, new(big.Rat).Mul(rat(b), rat(poles[i])))
		}
		if sum.Cmp(want) != 0 {
			t.Fatalf("Insert(%s, %v) = %v: %v at %v", show(c), k, poles, sum, at)
		}
	}
}

// P4.3: ErrArg, then ErrSize, then ErrNone.
func TestInsertErrors(t *testing.T) {
	inner := curve(1, []int{0, 2, 4, 6, 8}, []int{1, 2, 3}) // from 2 to 6
	tests := []struct {
		c    curves.Curve
		k    int
		want api.Errno
	}{
		{inner, 1, api.ErrArg},
		{inner, 0, api.ErrArg},
		{inner, -1, api.ErrArg},
		{inner, 6, api.ErrArg},
		{inner, 7, api.ErrArg},
		{inner, 8, api.ErrArg},
		{inner, 13, api.ErrArg},
		{inner, math.MaxInt, api.ErrArg},
		{inner, math.MinInt, api.ErrArg},
		{inner, 2, api.OK},
		{inner, 5, api.OK},
		{line(), 2, api.ErrArg},
		{line(), 0, api.ErrNone},
		{curve(0, []int{3, 4, 7}, []int{2, -2}), 3, api.ErrNone},
		{curve(0, []int{3, 4, 7}, []int{2, -2}), 4, api.ErrNone},
		{curve(0, []int{3, 4, 7}, []int{2, -2}), 7, api.ErrArg},
		{curve(1, []int{2, 2, 5, 5, 8, 8}, []int{1, -1, 3, -3}), 5, api.ErrNone},
		{curve(2, []int{0, 0, 0, 5, 5, 8, 8, 8}, []int{1, 2, 3, 4, 5}), 5, api.OK},
		{curve(2, []int{0, 0, 0, 5, 5, 5, 8, 8, 8}, []int{1, 2, 3, 4, 5, 6}), 5, api.ErrNone},
		{full(), 1, api.ErrSize},
		{full(), 0, api.ErrSize}, // it is a knot twice already
		{full(), 4, api.ErrSize},
		{full(), 7, api.ErrArg},
		{full(), -1, api.ErrArg},
		{curve(1, []int{0, 0, 1, 2, 3, 4, 5, 6, 6}, []int{1, 2, 3, 4, 5, 6, 7}), 5, api.OK}, // 8 poles then
	}
	for _, c := range tests {
		if got, e := curves.Insert(c.c, c.k); e != c.want || e != api.OK && len(got) != 0 {
			t.Errorf("Insert(%s, %v) = %v, %v", show(c.c), c.k, got, e)
		}
	}
	eachNotCurve(t, func(name string, c curves.Curve) {
		for _, k := range []int{0, 1, 2, 13, math.MaxInt, math.MinInt} {
			if got, e := curves.Insert(c, k); len(got) != 0 || e != api.ErrArg {
				t.Errorf("%s: Insert of %v = %v, %v", name, k, got, e)
			}
		}
	})
}
