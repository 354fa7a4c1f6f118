package curves_test

import (
	"math"
	"math/big"
	"slices"
	"testing"

	"congou/api"
	"congou/curves"
)

// P4.2
func TestSlope(t *testing.T) {
	tests := []struct {
		c      curves.Curve
		degree int
		knots  []int
		poles  []api.Frac
	}{
		{line(), 0, []int{0, 2}, []api.Frac{frac(2, 1)}},
		{hill(), 1, []int{0, 0, 2, 2}, []api.Frac{frac(4, 1), frac(-4, 1)}},
		{full(), 0, []int{0, 1, 2, 3, 4, 4, 6, 7}, []api.Frac{frac(-3, 1), frac(5, 1), frac(-7, 1), frac(9, 1), frac(0, 1), frac(13, 2), frac(-15, 1)}}, // 0 at 4, where it leaps
		{curve(1, []int{0, 3, 7, 9}, []int{2, 2}), 0, []int{3, 7}, []api.Frac{frac(0, 1)}},
		{curve(1, []int{0, 3, 7, 9}, []int{50, -50}), 0, []int{3, 7}, []api.Frac{frac(-25, 1)}},
		{curve(2, []int{0, 1, 3, 6, 10, 12}, []int{1, 2, 4}), 1, []int{1, 3, 6, 10}, []api.Frac{frac(2, 5), frac(4, 7)}},
		{curve(2, []int{0, 0, 0, 5, 5, 5, 12, 12, 12}, []int{1, 2, 3, 50, 5, 6}), 1, []int{0, 0, 5, 5, 5, 12, 12}, []api.Frac{frac(2, 5), frac(2, 5), frac(0, 1), frac(-90, 7), frac(2, 7)}},
		{curve(3, []int{0, 0, 0, 0, 3, 9, 9, 9, 9}, []int{0, 1, -1, 50, -50}), 2, []int{0, 0, 0, 3, 9, 9, 9}, []api.Frac{frac(1, 1), frac(-2, 3), frac(17, 1), frac(-50, 1)}},
	}
	for _, c := range tests {
		degree, knots, poles, e := curves.Slope(c.c)
		if degree != c.degree || !slices.Equal(knots, c.knots) || !slices.Equal(poles, c.poles) || e != api.OK {
			t.Errorf("Slope(%s) = %v, %v, %v, %v", show(c.c), degree, knots, poles, e)
		}
	}
}

// P4.2: the term itself.
func TestSlopeAll(t *testing.T) {
	for _, c := range someCurves() {
		degree, knots, poles, e := curves.Slope(c)
		if c.Degree == 0 {
			if degree != 0 || len(knots) != 0 || len(poles) != 0 || e != api.ErrNone {
				t.Errorf("Slope(%s) = %v, %v, %v, %v", show(c), degree, knots, poles, e)
			}
			continue
		}
		var want []*big.Rat
		for i := range len(c.Poles) - 1 {
			slope := whole(0)
			if way := c.Knots[i+c.Degree+1] - c.Knots[i+1]; way != 0 {
				slope = big.NewRat(int64(c.Degree*(c.Poles[i+1]-c.Poles[i])), int64(way))
			}
			want = append(want, slope)
		}
		if degree != c.Degree-1 || !slices.Equal(knots, c.Knots[1:len(c.Knots)-1]) || !areExact(poles, want) || e != api.OK {
			t.Errorf("Slope(%s) = %v, %v, %v, %v", show(c), degree, knots, poles, e)
		}
	}
}

// P4.2: the curve of the slopes is how the values grow. Four values of a piece
// at ways of 1/12 tell this of what has at most the degree 3.
func TestSlopeOfValues(t *testing.T) {
	tested := 0
	for _, c := range someCurves() {
		degree, knots, poles, e := curves.Slope(c)
		if e != api.OK {
			continue
		}
		begin, end := span(c)
		for at := begin * 12; at < end*12; at++ {
			if at%12 > 8 {
				continue // the fourth value would be of another piece
			}
			growth := whole(0)
			for i, factor := range []int64{-22, 36, -18, 4} {
				v := value(t, c, twelfths(at+i))
				growth.Add(growth, v.Mul(v, big.NewRat(factor, 1)))
			}
			if got := weighed(rats(poles), degree, knots, twelfths(at)); got.Cmp(growth) != 0 {
				t.Fatalf("Slope(%s) is %v at %v/12, not %v", show(c), got, at, growth)
			}
			tested++
		}
	}
	if tested < 4000 {
		t.Error(tested)
	}
}

func twelfths(n int) api.Frac {
	r := big.NewRat(int64(n), 12)
	return frac(int(r.Num().Int64()), int(r.Denom().Int64()))
}

// P4.13: of Degree 1, Slope is the slope between two knots.
func TestSlopeBetweenKnots(t *testing.T) {
	tested := 0
	for _, c := range someCurves() {
		if c.Degree != 1 {
			continue
		}
		_, knots, poles, _ := curves.Slope(c)
		for i, slope := range poles {
			from, to := knots[i], knots[i+1]
			if from == to {
				continue
			}
			rise := value(t, c, twelfths(12*to-1)) // at to, there may be a leap
			rise.Sub(rise, value(t, c, frac(from, 1)))
			if rise.Quo(rise, big.NewRat(int64(12*(to-from)-1), 12)).Cmp(rat(slope)) != 0 {
				t.Errorf("Slope(%s) is %v from %v to %v", show(c), slope, from, to)
			}
			tested++
		}
	}
	if tested < 100 {
		t.Error(tested)
	}
}

// P4.2 and P4.5: ErrArg is before ErrNone.
func TestSlopeErrors(t *testing.T) {
	eachNotCurve(t, func(name string, c curves.Curve) {
		if degree, knots, poles, e := curves.Slope(c); degree != 0 || len(knots) != 0 || len(poles) != 0 || e != api.ErrArg {
			t.Errorf("%s: Slope = %v, %v, %v, %v", name, degree, knots, poles, e)
		}
		if got, e := curves.Means(c); len(got) != 0 || e != api.ErrArg {
			t.Errorf("%s: Means = %v, %v", name, got, e)
		}
	})
}

// P4.2: what it returns is new, and no argument is changed.
func TestSlopeIsNew(t *testing.T) {
	for _, c := range someCurves() {
		before := clone(c)
		_, knots, _, _ := curves.Slope(c)
		for i := range knots {
			knots[i] = -1
		}
		curves.Means(c)
		if !equal(c, before) {
			t.Fatalf("%s became %s", show(before), show(c))
		}
	}
}

// P4.5
func TestMeans(t *testing.T) {
	tests := []struct {
		c    curves.Curve
		want []api.Frac
	}{
		{hill(), []api.Frac{frac(0, 1), frac(1, 1), frac(2, 1)}},
		{line(), []api.Frac{frac(0, 1), frac(2, 1)}},
		{curve(1, []int{0, 3, 7, 9}, []int{50, -50}), []api.Frac{frac(3, 1), frac(7, 1)}},
		{curve(2, []int{0, 1, 4, 6, 6, 6}, []int{7, 7, 7}), []api.Frac{frac(5, 2), frac(5, 1), frac(6, 1)}},
		{curve(3, []int{0, 0, 0, 0, 12, 12, 12, 12}, []int{0, 0, 0, 0}), []api.Frac{frac(0, 1), frac(4, 1), frac(8, 1), frac(12, 1)}},
		{curve(3, []int{0, 1, 2, 4, 7, 11, 12, 12}, []int{0, 0, 0, 0}), []api.Frac{frac(7, 3), frac(13, 3), frac(22, 3), frac(10, 1)}},
	}
	for _, c := range tests {
		if got, e := curves.Means(c.c); !slices.Equal(got, c.want) || e != api.OK {
			t.Errorf("Means(%s) = %v, %v", show(c.c), got, e)
		}
	}
}

// P4.5: the term itself.
func TestMeansAll(t *testing.T) {
	for _, c := range someCurves() {
		got, e := curves.Means(c)
		if c.Degree == 0 {
			if len(got) != 0 || e != api.ErrNone {
				t.Errorf("Means(%s) = %v, %v", show(c), got, e)
			}
			continue
		}
		var want []*big.Rat
		for i := range c.Poles {
			sum := 0
			for j := 1; j <= c.Degree; j++ {
				sum += c.Knots[i+j]
			}
			want = append(want, big.NewRat(int64(sum), int64(c.Degree)))
		}
		if !areExact(got, want) || e != api.OK {
			t.Errorf("Means(%s) = %v, %v", show(c), got, e)
		}
	}
}

// P4.4
func TestChanges(t *testing.T) {
	tests := []struct {
		l    []int
		want int
	}{
		{nil, 0},
		{[]int{}, 0},
		{[]int{0}, 0},
		{[]int{-50}, 0},
		{[]int{0, 0, 0}, 0},
		{[]int{1, 2, 50}, 0},
		{[]int{-1, -50}, 0},
		{[]int{1, -1}, 1},
		{[]int{-1, 1}, 1},
		{[]int{1, 0}, 0},
		{[]int{0, -1}, 0},
		{[]int{0, 3, 0, 0, -2, 0}, 1},
		{[]int{0, 3, 0, 0, 2, 0}, 0},
		{[]int{3, 0, -2, 0, 0, -1, 0, 7}, 2},
		{[]int{1, -1, 1, -1, 1}, 4},
		{[]int{1, 1, -1, -1, 1, 1}, 2},
		{slices.Repeat([]int{50, -50}, 10), 19},
		{slices.Repeat([]int{50, 0, -50, 0}, 5), 9},
		{make([]int, 20), 0},
	}
	for _, c := range tests {
		before := slices.Clone(c.l)
		if got, e := curves.Changes(c.l); got != c.want || e != api.OK {
			t.Errorf("Changes(%v) = %v, %v", c.l, got, e)
		}
		if !slices.Equal(c.l, before) {
			t.Errorf("%v became %v", before, c.l)
		}
	}
}

// P4.4: the term itself, for all of up to 7 signs.
func TestChangesAll(t *testing.T) {
	lists := [][]int{nil}
	for range 7 {
		var longer [][]int
		for _, l := range lists {
			for v := -1; v <= 1; v++ {
				longer = append(longer, append(slices.Clone(l), v))
			}
		}
		lists = longer
		for _, l := range lists {
			if got, e := curves.Changes(l); got != changesOf(l) || e != api.OK {
				t.Fatalf("Changes(%v) = %v, %v", l, got, e)
			}
		}
	}
}

// P4.4
func TestChangesErrors(t *testing.T) {
	for _, bad := range [][]int{
		make([]int, 21), make([]int, 10000), {51}, {-51}, {1, 2, 51}, {-51, 0}, {1, -1, 51},
		{math.MaxInt}, {math.MinInt, 1}, {1, math.MinInt}, append(make([]int, 19), 51), slices.Repeat([]int{1, -1}, 11),
	} {
		if got, e := curves.Changes(bad); got != 0 || e != api.ErrArg {
			t.Errorf("Changes(%v) = %v, %v", bad, got, e)
		}
	}
}
