package curves_test

import (
	"math/big"
	"slices"
	"testing"

	"congou/api"
	"congou/curves"
)

// P4.6
func TestMirror(t *testing.T) {
	tests := []struct{ c, want curves.Curve }{
		{line(), curve(1, []int{10, 10, 12, 12}, []int{5, 1})},
		{hill(), curve(2, []int{10, 10, 10, 12, 12, 12}, []int{0, 4, 0})},
		{curve(0, []int{0, 12}, []int{-50}), curve(0, []int{0, 12}, []int{-50})},
		{curve(0, []int{3, 4, 7}, []int{2, -2}), curve(0, []int{5, 8, 9}, []int{-2, 2})},
		{curve(1, []int{0, 3, 4, 9}, []int{-7, 7}), curve(1, []int{3, 8, 9, 12}, []int{7, -7})},
		{curve(2, []int{0, 1, 4, 6, 6, 6}, []int{7, 8, 9}), curve(2, []int{6, 6, 6, 8, 11, 12}, []int{9, 8, 7})},
	}
	for _, c := range tests {
		if got, e := curves.Mirror(c.c); !equal(got, c.want) || e != api.OK {
			t.Errorf("Mirror(%s) = %s, %v", show(c.c), show(got), e)
		}
	}
}

// P4.6 and P4.12: Mirror at 12 - t is as at t, but at a leap.
func TestMirrorAll(t *testing.T) {
	leaps := 0
	for _, c := range someCurves() {
		m, e := curves.Mirror(c)
		if e != api.OK {
			t.Fatal(show(c), e)
		}
		if back, e := curves.Mirror(m); !equal(back, c) || e != api.OK {
			t.Fatalf("Mirror(Mirror(%s)) = %s, %v", show(c), show(back), e)
		}
		for _, at := range places(c) {
			if at.Den == 1 && times(c.Knots, at.Num) == c.Degree+1 {
				leaps++
				continue
			}
			there := frac(12*at.Den-at.Num, at.Den)
			if v, w := value(t, c, at), value(t, m, there); v.Cmp(w) != 0 {
				t.Fatalf("%s is %v at %v, its Mirror %v", show(c), v, at, w)
			}
		}
	}
	if leaps < 50 {
		t.Error(leaps)
	}
}

// P4.6
func TestPlus(t *testing.T) {
	tests := []struct{ c, d, want curves.Curve }{
		{line(), line(), curve(1, []int{0, 0, 2, 2}, []int{2, 10})},
		{hill(), curve(2, []int{0, 0, 0, 2, 2, 2}, []int{1, -4, -50}), curve(2, []int{0, 0, 0, 2, 2, 2}, []int{1, 0, -50})},
		{curve(0, []int{0, 2}, []int{25}), curve(0, []int{0, 2}, []int{25}), curve(0, []int{0, 2}, []int{50})},
		{curve(0, []int{0, 2}, []int{-1}), curve(0, []int{0, 2}, []int{-49}), curve(0, []int{0, 2}, []int{-50})},
		{curve(0, []int{0, 2}, []int{50}), curve(0, []int{0, 2}, []int{-50}), curve(0, []int{0, 2}, []int{0})},
	}
	for _, c := range tests {
		if got, e := curves.Plus(c.c, c.d); !equal(got, c.want) || e != api.OK {
			t.Errorf("Plus(%s, %s) = %s, %v", show(c.c), show(c.d), show(got), e)
		}
	}
}

// P4.6 and P4.8: Value of Plus is the sum, and Plus is the same both ways.
func TestPlusAll(t *testing.T) {
	next := walk(23)
	made, none := 0, 0
	for i, c := range someCurves() {
		d, want := clone(c), clone(c)
		for j := range d.Poles {
			d.Poles[j] = next(101) - 50
			if next(4) > 0 {
				d.Poles[j] = min(max(d.Poles[j], -50-c.Poles[j]), 50-c.Poles[j])
			}
			want.Poles[j] += d.Poles[j]
		}
		got, e := curves.Plus(c, d)
		other, f := curves.Plus(d, c)
		if slices.Max(want.Poles) > 50 || slices.Min(want.Poles) < -50 {
			if !isZero(got) || !isZero(other) || e != api.ErrNone || f != api.ErrNone {
				t.Fatalf("Plus(%s, %s) = %s, %v", show(c), show(d), show(got), e)
			}
			none++
			continue
		}
		made++
		if !equal(got, want) || !equal(other, want) || e != api.OK || f != api.OK {
			t.Fatalf("Plus(%s, %s) = %s, %v", show(c), show(d), show(got), e)
		}
		for _, at := range places(c, 1, 2+i%11) {
			sum := new(big.Rat).Add(value(t, c, at), value(t, d, at))
			if v := value(t, got, at); v.Cmp(sum) != 0 {
				t.Fatalf("Plus(%s, %s) is %v at %v", show(c), show(d), v, at)
			}
		}
	}
	if made < 50 || none < 30 {
		t.Error(made, none)
	}
}

// P4.6: ErrArg is before ErrNone.
func TestPlusErrors(t *testing.T) {
	c := curve(1, []int{0, 1, 3, 5}, []int{50, -50})
	tests := []struct {
		d    curves.Curve
		want api.Errno
	}{
		{curve(1, []int{0, 1, 3, 5}, []int{1, 0}), api.ErrNone},
		{curve(1, []int{0, 1, 3, 5}, []int{0, -1}), api.ErrNone},
		{curve(1, []int{0, 1, 3, 5}, []int{50, 50}), api.ErrNone},
		{curve(1, []int{0, 1, 3, 5}, []int{-50, -50}), api.ErrNone},
		{curve(1, []int{0, 1, 3, 5}, []int{0, 0}), api.OK},
		{curve(1, []int{0, 1, 3, 6}, []int{1, 0}), api.ErrArg},
		{curve(1, []int{1, 1, 3, 5}, []int{0, 0}), api.ErrArg},
		{curve(1, []int{0, 1, 2, 5}, []int{0, 0}), api.ErrArg},
		{curve(1, []int{0, 1, 3, 5, 5}, []int{0, 0, 0}), api.ErrArg},
		{curve(0, []int{0, 1, 3, 5}, []int{0, 0, 0}), api.ErrArg}, // the same knots of another Degree
		{curve(0, []int{0, 1, 3}, []int{0, 0}), api.ErrArg},
	}
	for _, x := range tests {
		for _, pair := range [][2]curves.Curve{{c, x.d}, {x.d, c}} {
			if got, e := curves.Plus(pair[0], pair[1]); e != x.want || e != api.OK && !isZero(got) {
				t.Errorf("Plus(%s, %s) = %s, %v", show(pair[0]), show(pair[1]), show(got), e)
			}
		}
	}
}

// P4.6
func TestMirrorErrors(t *testing.T) {
	eachNotCurve(t, func(name string, c curves.Curve) {
		if got, e := curves.Mirror(c); !isZero(got) || e != api.ErrArg {
			t.Errorf("%s: Mirror = %s, %v", name, show(got), e)
		}
		for _, pair := range [][2]curves.Curve{{c, c}, {c, line()}, {line(), c}, {c, clone(c)}} {
			if got, e := curves.Plus(pair[0], pair[1]); !isZero(got) || e != api.ErrArg {
				t.Errorf("%s: Plus = %s, %v", name, show(got), e)
			}
		}
	})
}

// P4.6: what they return is new, and no argument is changed.
func TestCurvesAreNew(t *testing.T) {
	for _, c := range someCurves() {
		before := clone(c)
		m, _ := curves.Mirror(c)
		sum, _ := curves.Plus(c, curve(c.Degree, c.Knots, make([]int, len(c.Poles))))
		for _, l := range [][]int{m.Knots, m.Poles, sum.Knots, sum.Poles} {
			if len(l) == 0 {
				t.Fatal(show(c), show(m), show(sum))
			}
			for i := range l {
				l[i] = -77
			}
			if !equal(c, before) {
				t.Fatalf("%s became %s", show(before), show(c))
			}
		}
	}
}
