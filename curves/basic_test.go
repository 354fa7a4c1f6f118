package curves_test

import (
	"math"
	"math/big"
	"slices"
	"testing"

	"congou/api"
	"congou/curves"
)

// P4.1
func TestBasic(t *testing.T) {
	zero, half, one := frac(0, 1), frac(1, 2), frac(1, 1)
	steps := curve(0, []int{3, 4, 7}, []int{2, -2})
	leap := curve(1, []int{2, 2, 5, 5, 8, 8}, []int{1, -1, 3, -3})
	inner := curve(1, []int{0, 3, 4, 9}, []int{-7, 7})
	even := curve(3, []int{0, 1, 2, 3, 4, 5, 6, 7}, []int{3, 1, 4, 1})
	tests := []struct {
		c    curves.Curve
		t    api.Frac
		want []api.Frac
	}{
		{hill(), one, []api.Frac{frac(1, 4), half, frac(1, 4)}},
		{hill(), zero, []api.Frac{one, zero, zero}},
		{hill(), frac(2, 1), []api.Frac{zero, zero, one}},
		{hill(), frac(23, 12), []api.Frac{frac(1, 576), frac(23, 288), frac(529, 576)}},
		{line(), one, []api.Frac{half, half}},
		{line(), frac(1, 7), []api.Frac{frac(13, 14), frac(1, 14)}},
		{steps, frac(3, 1), []api.Frac{one, zero}},
		{steps, frac(47, 12), []api.Frac{one, zero}},
		{steps, frac(4, 1), []api.Frac{zero, one}}, // where pieces meet, the later one
		{steps, frac(7, 1), []api.Frac{zero, one}}, // the end belongs to the last piece
		{leap, frac(59, 12), []api.Frac{frac(1, 36), frac(35, 36), zero, zero}},
		{leap, frac(5, 1), []api.Frac{zero, zero, one, zero}},
		{leap, frac(8, 1), []api.Frac{zero, zero, zero, one}},
		{inner, frac(3, 1), []api.Frac{one, zero}},
		{inner, frac(7, 2), []api.Frac{half, half}},
		{inner, frac(4, 1), []api.Frac{zero, one}}, // also where a knot is behind the end
		{even, frac(3, 1), []api.Frac{frac(1, 6), frac(2, 3), frac(1, 6), zero}},
		{even, frac(4, 1), []api.Frac{zero, frac(1, 6), frac(2, 3), frac(1, 6)}},
		{even, frac(7, 2), []api.Frac{frac(1, 48), frac(23, 48), frac(23, 48), frac(1, 48)}},
		{curve(1, []int{0, 1, 1, 2, 3}, []int{50, -50, 50}), one, []api.Frac{zero, one, zero}},
		{curve(1, []int{0, 1, 2, 2, 3}, []int{50, -50, 50}), frac(2, 1), []api.Frac{zero, one, zero}}, // the last piece that is not empty
	}
	for _, c := range tests {
		if got, e := curves.Basic(c.c, c.t); !slices.Equal(got, c.want) || e != api.OK {
			t.Errorf("Basic(%s, %v) = %v, %v", show(c.c), c.t, got, e)
		}
	}
}

// P4.1
func TestValue(t *testing.T) {
	leap := curve(1, []int{2, 2, 5, 5, 8, 8}, []int{1, -1, 3, -3})
	tests := []struct {
		c       curves.Curve
		t, want api.Frac
	}{
		{line(), frac(1, 1), frac(3, 1)},
		{line(), frac(0, 1), frac(1, 1)},
		{line(), frac(2, 1), frac(5, 1)},
		{line(), frac(1, 12), frac(7, 6)},
		{hill(), frac(1, 1), frac(2, 1)},
		{hill(), frac(0, 1), frac(0, 1)},
		{hill(), frac(2, 1), frac(0, 1)},
		{hill(), frac(1, 6), frac(11, 18)},
		{leap, frac(7, 2), frac(0, 1)},
		{leap, frac(5, 1), frac(3, 1)},
		{leap, frac(59, 12), frac(-17, 18)},
		{curve(0, []int{3, 4, 7}, []int{2, -2}), frac(4, 1), frac(-2, 1)},
		{curve(3, []int{0, 1, 2, 3, 4, 5, 6, 7}, []int{3, 1, 4, 1}), frac(3, 1), frac(11, 6)},
		{curve(3, []int{0, 0, 0, 0, 12, 12, 12, 12}, []int{-50, 50, -50, 50}), frac(6, 1), frac(0, 1)},
		{curve(3, []int{0, 0, 0, 0, 12, 12, 12, 12}, []int{-50, 50, -50, 50}), frac(1, 11), frac(-6865625, 143748)},
	}
	for _, c := range tests {
		if got, e := curves.Value(c.c, c.t); got != c.want || e != api.OK {
			t.Errorf("Value(%s, %v) = %v, %v", show(c.c), c.t, got, e)
		}
	}
}

// P4.1: the terms themselves.
func TestBasicAll(t *testing.T) {
	for i, c := range someCurves() {
		for _, at := range places(c, 1, 2+i%10, 12) {
			if got, e := curves.Basic(c, at); !areExact(got, basicsOf(c, at)) || e != api.OK {
				t.Fatalf("Basic(%s, %v) = %v, %v", show(c), at, got, e)
			}
			want := weighed(wholes(c.Poles), c.Degree, c.Knots, at)
			if got, e := curves.Value(c, at); !isExact(got, want) || e != api.OK {
				t.Fatalf("Value(%s, %v) = %v, %v", show(c), at, got, e)
			}
		}
	}
}

// P4.7: from 0 to 1, with the sum 1, and at most Degree + 1 of them above 0.
func TestBasicsShareOne(t *testing.T) {
	for _, c := range someCurves() {
		for _, at := range places(c) {
			list, e := curves.Basic(c, at)
			if len(list) != len(c.Poles) || e != api.OK {
				t.Fatalf("Basic(%s, %v) = %v, %v", show(c), at, list, e)
			}
			sum, above := whole(0), 0
			for _, b := range list {
				if b.Num < 0 || b.Num > b.Den {
					t.Fatalf("Basic(%s, %v) = %v", show(c), at, list)
				}
				if b.Num > 0 {
					above++
				}
				sum.Add(sum, rat(b))
			}
			if sum.Cmp(whole(1)) != 0 || above > c.Degree+1 {
				t.Fatalf("Basic(%s, %v) = %v", show(c), at, list)
			}
		}
	}
}

// P4.8: from the least to the greatest pole; the same pole throughout.
func TestValueBetweenPoles(t *testing.T) {
	for i, c := range someCurves() {
		low, high := whole(slices.Min(c.Poles)), whole(slices.Max(c.Poles))
		same := i%101 - 50
		flat := curve(c.Degree, c.Knots, slices.Repeat([]int{same}, len(c.Poles)))
		for _, at := range places(c) {
			if v := value(t, c, at); v.Cmp(low) < 0 || v.Cmp(high) > 0 {
				t.Fatalf("Value(%s, %v) = %v", show(c), at, v)
			}
			if v := value(t, flat, at); v.Cmp(whole(same)) != 0 {
				t.Fatalf("Value(%s, %v) = %v", show(flat), at, v)
			}
		}
	}
}

// P4.11: values at rising t, all of them and few of them.
func TestValueChanges(t *testing.T) {
	changed, less := 0, 0
	next := walk(5)
	for _, c := range someCurves() {
		limit, e := curves.Changes(c.Poles)
		if e != api.OK {
			t.Fatal(show(c), e)
		}
		var all, few []int
		for _, at := range places(c) {
			sign := value(t, c, at).Sign()
			all = append(all, sign)
			if next(50) == 0 && len(few) < 20 {
				few = append(few, sign)
			}
		}
		n := changesOf(all)
		if n > limit {
			t.Errorf("%s changes its sign %v times", show(c), n)
		}
		if k, e := curves.Changes(few); k > limit || e != api.OK {
			t.Errorf("%s changes its sign %v times, %v", show(c), k, e)
		}
		if n > 0 {
			changed++
		}
		if n < limit {
			less++
		}
	}
	if changed < 40 || less < 20 {
		t.Error(changed, less)
	}
}

// changesOf returns how often a sign is another one than the last one before
// it that is not 0.
func changesOf(signs []int) int {
	n := 0
	for i, sign := range signs {
		for j := i - 1; j >= 0 && sign != 0; j-- {
			if signs[j] != 0 {
				if signs[j] != sign {
					n++
				}
				break
			}
		}
	}
	return n
}

// notPlaces are Fracs that are not valid for the curve, from 1 to 5.
func notPlaces() []api.Frac {
	return []api.Frac{
		{}, frac(0, 1), frac(6, 1), frac(11, 12), frac(61, 12), frac(-1, 1), frac(-2, 1), frac(1, 2), frac(-3, 2), frac(11, 2),
		frac(2, 2), frac(4, 2), frac(12, 12), frac(24, 12), frac(9, 6), frac(14, 13), frac(27, 13), frac(40, 20), frac(101, 100),
		frac(2, 0), frac(0, 0), frac(2, -1), frac(-2, -1), frac(-4, -2), frac(3, -2),
		frac(math.MaxInt, 1), frac(math.MinInt, 1), frac(math.MaxInt, 12), frac(math.MinInt, 11),
		frac(2, math.MaxInt), frac(2, math.MinInt), frac(math.MaxInt, math.MaxInt), frac(math.MinInt, math.MinInt),
	}
}

// P4.1
func TestPlaceErrors(t *testing.T) {
	within := []curves.Curve{
		curve(0, []int{1, 5}, []int{7}),
		curve(0, []int{1, 2, 5}, []int{7, 8}),
		curve(1, []int{0, 1, 3, 5, 9}, []int{7, 8, 9}), // knots before and behind the span
		curve(2, []int{1, 1, 1, 5, 5, 5}, []int{1, 2, 3}),
		curve(3, []int{0, 0, 1, 1, 5, 8, 8, 12}, []int{1, 2, 3, 4}),
	}
	for _, c := range within {
		for _, bad := range notPlaces() {
			if got, e := curves.Basic(c, bad); len(got) != 0 || e != api.ErrArg {
				t.Errorf("Basic(%s, %v) = %v, %v", show(c), bad, got, e)
			}
			if got, e := curves.Value(c, bad); got != (api.Frac{}) || e != api.ErrArg {
				t.Errorf("Value(%s, %v) = %v, %v", show(c), bad, got, e)
			}
		}
		for _, good := range []api.Frac{frac(1, 1), frac(13, 12), frac(12, 11), frac(59, 12), frac(5, 1)} {
			if _, e := curves.Basic(c, good); e != api.OK {
				t.Errorf("Basic(%s, %v): %v", show(c), good, e)
			}
			if _, e := curves.Value(c, good); e != api.OK {
				t.Errorf("Value(%s, %v): %v", show(c), good, e)
			}
		}
	}
}

// P4.1
func TestBasicErrors(t *testing.T) {
	eachNotCurve(t, func(name string, c curves.Curve) {
		for _, at := range []api.Frac{frac(1, 1), frac(0, 1), frac(3, 2)} {
			if got, e := curves.Basic(c, at); len(got) != 0 || e != api.ErrArg {
				t.Errorf("%s: Basic = %v, %v", name, got, e)
			}
			if got, e := curves.Value(c, at); got != (api.Frac{}) || e != api.ErrArg {
				t.Errorf("%s: Value = %v, %v", name, got, e)
			}
		}
	})
}

// P4.9: Means are the poles of the straight curve t (Marsden).
func TestStraight(t *testing.T) {
	for _, c := range someCurves() {
		if c.Degree == 0 {
			continue
		}
		means, e := curves.Means(c)
		if len(means) != len(c.Poles) || e != api.OK {
			t.Fatalf("Means(%s) = %v, %v", show(c), means, e)
		}
		for _, at := range places(c) {
			list, _ := curves.Basic(c, at)
			sum := whole(0)
			for i, b := range list {
				sum.Add(sum, new(big.Rat).Mul(rat(b), rat(means[i])))
			}
			if sum.Cmp(rat(at)) != 0 {
				t.Fatalf("the Means of %s make %v of %v", show(c), sum, at)
			}
		}
	}
}
