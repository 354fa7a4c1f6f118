package deals_test

import (
	"math"
	"math/big"
	"slices"
	"testing"

	"congou/api"
	"congou/deals"
)

// P5.1
func TestEdge(t *testing.T) {
	tests := []struct{ o, want offers }{
		{offers{{0, 10}, {10, 0}}, offers{{0, 10}, {10, 0}}},
		{offers{{10, 0}, {0, 10}}, offers{{0, 10}, {10, 0}}},
		{offers{{4, 9}}, offers{{4, 9}}},
		{offers{{0, 0}}, offers{{0, 0}}},
		{offers{{0, 0}, {0, 30}, {0, 1}}, offers{{0, 30}}},
		{offers{{9, 3}, {5, 3}}, offers{{9, 3}}},
		{offers{{0, 30}, {30, 0}, {30, 30}}, offers{{30, 30}}},
		{offers{{9, 0}, {6, 3}, {0, 9}, {3, 6}}, offers{{0, 9}, {9, 0}}},
		{offers{{0, 6}, {2, 2}, {6, 0}}, offers{{0, 6}, {6, 0}}},
		{offers{{0, 6}, {3, 3}, {6, 0}}, offers{{0, 6}, {6, 0}}},
		{offers{{0, 6}, {4, 4}, {6, 0}}, offers{{0, 6}, {4, 4}, {6, 0}}},
		{offers{{0, 6}, {4, 6}, {6, 4}, {6, 0}}, offers{{4, 6}, {6, 4}}},
		{offers{{6, 0}, {5, 5}, {0, 6}, {4, 6}, {6, 4}}, offers{{4, 6}, {6, 4}}},
		{offers{{0, 30}, {30, 29}}, offers{{0, 30}, {30, 29}}},
		{offers{{2, 20}, {12, 18}, {20, 12}, {24, 2}, {22, 3}, {23, 7}, {1, 1}, {0, 0}}, offers{{2, 20}, {12, 18}, {20, 12}, {23, 7}, {24, 2}}},
	}
	for _, c := range tests {
		if got, e := deals.Edge(c.o); !slices.Equal(got, c.want) || e != api.OK {
			t.Errorf("Edge(%v) = %v, %v", c.o, got, e)
		}
	}
}

// P5.1: the words of the chapter.
func TestEdgeAll(t *testing.T) {
	long := 0
	for _, o := range slices.Concat(someOffers(), smallOffers()) {
		before, want := slices.Clone(o), edgeOf(o)
		got, e := deals.Edge(o)
		if !slices.Equal(got, want) || e != api.OK {
			t.Fatalf("Edge(%v) = %v, %v, not %v", o, got, e, want)
		}
		if len(got) > 2 {
			long++
		}
		for i := range got {
			got[i] = [2]int{-7, -7}
		}
		if !slices.Equal(o, before) {
			t.Fatalf("%v became %v", before, o)
		}
	}
	if long < 40 {
		t.Error(long)
	}
}

// P5.1
func TestEdgeErrors(t *testing.T) {
	eachNotOffers(t, func(name string, o offers) {
		if got, e := deals.Edge(o); len(got) != 0 || e != api.ErrArg {
			t.Errorf("%s: Edge = %v, %v", name, got, e)
		}
	})
}

// P5.2
func TestIs(t *testing.T) {
	steep := offers{{0, 30}, {1, 0}}
	tests := []struct {
		o    offers
		p    deals.Point
		want bool
	}{
		{offers{{0, 10}, {10, 0}}, wholePoint(5, 5), true},
		{offers{{0, 10}, {10, 0}}, wholePoint(5, 6), false},
		{offers{{0, 10}, {10, 0}}, wholePoint(6, 5), false},
		{offers{{0, 10}, {10, 0}}, wholePoint(0, 0), true},
		{offers{{0, 10}, {10, 0}}, wholePoint(0, 10), true},
		{offers{{0, 10}, {10, 0}}, wholePoint(0, 11), false},
		{offers{{0, 10}, {10, 0}}, wholePoint(11, 0), false},
		{offers{{0, 10}, {10, 0}}, point(frac(10, 3), frac(20, 3)), true},
		{offers{{0, 10}, {10, 0}}, point(frac(10, 3), frac(27, 4)), false},
		{offers{{5, 5}}, wholePoint(5, 5), true},
		{offers{{5, 5}}, wholePoint(0, 0), true}, // below all offers
		{offers{{5, 5}}, wholePoint(0, 5), true},
		{offers{{5, 5}}, wholePoint(5, 0), true},
		{offers{{5, 5}}, point(frac(5, 1), frac(500001, 100000)), false},
		{offers{{5, 5}}, point(frac(500001, 100000), frac(5, 1)), false},
		{offers{{0, 0}}, wholePoint(0, 0), true},
		{offers{{0, 0}}, point(frac(1, 1000000), frac(0, 1)), false},
		{offers{{0, 0}}, point(frac(0, 1), frac(1, 1000000)), false},
		{offers{{0, 7}}, wholePoint(0, 7), true},
		{offers{{30, 30}}, wholePoint(30, 30), true},
		{steep, point(frac(1, 1000000), frac(2999997, 100000)), true},
		{steep, point(frac(1, 1000000), frac(29999971, 1000000)), false},
		{steep, point(frac(1, 999999), frac(9999980, 333333)), true},
		{steep, point(frac(999983, 1000000), frac(51, 100000)), true},
		{steep, point(frac(999983, 1000000), frac(511, 1000000)), false},
	}
	for _, c := range tests {
		if got, e := deals.Is(c.o, c.p); got != c.want || e != api.OK {
			t.Errorf("Is(%v, %v) = %v, %v", c.o, c.p, got, e)
		}
	}
}

// P5.2: the words of the chapter, at points with small Dens, and at points on
// and just beyond the edge with great ones.
func TestIsAll(t *testing.T) {
	next := walk(31)
	deal, none := 0, 0
	test := func(o offers, p deals.Point) {
		want := isDeal(o, spotOf(p))
		if got, e := deals.Is(o, p); got != want || e != api.OK {
			t.Fatalf("Is(%v, %v) = %v, %v", o, p, got, e)
		}
		if want {
			deal++
		} else {
			none++
		}
	}
	for _, o := range someOffers() {
		for range 40 {
			den := 1 + next(6)
			p, q := o[next(len(o))], o[next(len(o))]
			x := big.NewRat(int64((p[0]+q[0])*den/2+next(5)-2), int64(den))
			y := big.NewRat(int64((p[1]+q[1])*den/2+next(5)-2), int64(den))
			if at := (spot{x, y}); isPlace(x) && isPlace(y) {
				test(o, pointOf(at))
			}
		}
		for range 40 {
			p, q := o[next(len(o))], o[next(len(o))]
			den := 999900 + next(101)
			s := mixed(p, q, big.NewRat(int64(next(den)), int64(den)))
			for _, change := range []int64{-1, 0, 1} {
				at := spot{s.x, plus(s.y, big.NewRat(change, int64(den)))}
				if isPlace(at.x) && isPlace(at.y) {
					test(o, pointOf(at))
				}
			}
		}
	}
	if deal < 5000 || none < 5000 {
		t.Error(deal, none)
	}
}

func isPlace(r *big.Rat) bool {
	return r.Sign() >= 0 && r.Cmp(whole(30)) <= 0 && r.Denom().Int64() <= 1000000
}

func pointOf(s spot) deals.Point {
	toFrac := func(r *big.Rat) api.Frac { return frac(int(r.Num().Int64()), int(r.Denom().Int64())) }
	return point(toFrac(s.x), toFrac(s.y))
}

// P5.2: what p must be, for both of its Fracs.
func TestIsErrors(t *testing.T) {
	tests := []struct {
		f    api.Frac
		want api.Errno
	}{
		{frac(0, 1), api.OK},
		{frac(30, 1), api.OK},
		{frac(1, 1000000), api.OK},
		{frac(29999999, 1000000), api.OK},
		{frac(1, 1000001), api.ErrArg},
		{frac(31, 1), api.ErrArg},
		{frac(61, 2), api.ErrArg},
		{frac(30000001, 1000000), api.ErrArg},
		{frac(-1, 1), api.ErrArg},
		{frac(-1, 1000000), api.ErrArg},
		{api.Frac{}, api.ErrArg},
		{frac(5, 0), api.ErrArg},
		{frac(0, 2), api.ErrArg},
		{frac(2, 4), api.ErrArg},
		{frac(999998, 999998), api.ErrArg},
		{frac(6, 2), api.ErrArg},
		{frac(0, -1), api.ErrArg},
		{frac(-1, -1), api.ErrArg},
		{frac(1, -1), api.ErrArg},
		{frac(math.MaxInt, 1), api.ErrArg},
		{frac(math.MinInt, 1), api.ErrArg},
		{frac(1, math.MaxInt), api.ErrArg},
		{frac(1, math.MinInt), api.ErrArg},
		{frac(math.MaxInt, math.MaxInt), api.ErrArg},
		{frac(math.MinInt, math.MinInt), api.ErrArg},
	}
	all := offers{{30, 30}}
	for _, c := range tests {
		for _, p := range []deals.Point{point(c.f, frac(1, 3)), point(frac(1, 3), c.f), point(c.f, c.f)} {
			if got, e := deals.Is(all, p); got != (c.want == api.OK) || e != c.want {
				t.Errorf("Is(%v) = %v, %v", p, got, e)
			}
		}
	}
	eachNotOffers(t, func(name string, o offers) {
		for _, p := range []deals.Point{wholePoint(0, 0), wholePoint(40, 0)} {
			if got, e := deals.Is(o, p); got || e != api.ErrArg {
				t.Errorf("%s: Is = %v, %v", name, got, e)
			}
		}
	})
}
