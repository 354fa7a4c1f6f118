package deals_test

import (
	"slices"
	"testing"

	"congou/api"
	"congou/deals"
)

type settling func(offers [][2]int, fallback [2]int) (deals.Point, api.Errno)

// settlings are the three of the chapter.
func settlings() map[string]settling {
	return map[string]settling{"Product": deals.Product, "Best": deals.Best, "Halves": deals.Halves}
}

// P5.3
func TestSettlings(t *testing.T) {
	three := offers{{0, 20}, {10, 10}, {15, 0}}
	same := func(p deals.Point) [3]deals.Point { return [3]deals.Point{p, p, p} }
	tests := []struct {
		o        offers
		fallback [2]int
		want     [3]deals.Point
	}{
		{offers{{0, 10}, {10, 0}}, [2]int{0, 0}, same(wholePoint(5, 5))},
		{offers{{0, 10}, {20, 0}}, [2]int{0, 0}, [3]deals.Point{wholePoint(10, 5), wholePoint(10, 5), point(frac(20, 3), frac(20, 3))}},
		{offers{{0, 10}, {10, 0}}, [2]int{4, 1}, same(point(frac(13, 2), frac(7, 2)))},
		{offers{{0, 6}, {4, 4}, {6, 0}}, [2]int{0, 0}, same(wholePoint(4, 4))},
		{offers{{30, 30}}, [2]int{29, 29}, same(wholePoint(30, 30))},
		// Halves is not on the edge
		{offers{{4, 9}}, [2]int{0, 0}, [3]deals.Point{wholePoint(4, 9), wholePoint(4, 9), wholePoint(4, 4)}},
		{offers{{9, 4}}, [2]int{0, 0}, [3]deals.Point{wholePoint(9, 4), wholePoint(9, 4), wholePoint(4, 4)}},
		{offers{{9, 4}}, [2]int{7, 1}, [3]deals.Point{wholePoint(9, 4), wholePoint(9, 4), wholePoint(9, 3)}},
		// a corner has the greatest product: the middle one, the first one, the last one
		{offers{{0, 6}, {5, 4}, {7, 0}}, [2]int{0, 0}, [3]deals.Point{wholePoint(5, 4), point(frac(105, 22), frac(45, 11)), point(frac(30, 7), frac(30, 7))}},
		{offers{{9, 10}, {10, 0}}, [2]int{0, 0}, [3]deals.Point{wholePoint(9, 10), point(frac(100, 11), frac(100, 11)), point(frac(100, 11), frac(100, 11))}},
		{offers{{10, 9}, {0, 10}}, [2]int{0, 0}, [3]deals.Point{wholePoint(10, 9), point(frac(100, 11), frac(100, 11)), point(frac(100, 11), frac(100, 11))}},
		// the fallback leaves a part of the edge out
		{three, [2]int{8, 0}, [3]deals.Point{point(frac(23, 2), frac(7, 1)), point(frac(153, 13), frac(84, 13)), point(frac(38, 3), frac(14, 3))}},
		{three, [2]int{0, 12}, same(wholePoint(4, 16))},
		{three, [2]int{11, 3}, [3]deals.Point{point(frac(49, 4), frac(11, 2)), point(frac(49, 4), frac(11, 2)), point(frac(38, 3), frac(14, 3))}},
		{offers{{30, 0}, {0, 29}, {17, 13}}, [2]int{0, 0}, [3]deals.Point{point(frac(493, 32), frac(29, 2)), point(frac(14790, 973), frac(14297, 973)), point(frac(493, 33), frac(493, 33))}},
	}
	for _, c := range tests {
		for i, f := range []settling{deals.Product, deals.Best, deals.Halves} {
			if got, e := f(c.o, c.fallback); got != c.want[i] || e != api.OK {
				t.Errorf("%d: %v, %v is %v, %v, not %v", i, c.o, c.fallback, got, e, c.want[i])
			}
		}
	}
}

// P5.3: the words of the chapter. The product is the greatest if no offer is
// beyond the line on which, as near the point, the product stays the same.
func TestProductAll(t *testing.T) {
	between, corner := 0, 0
	eachSettled(t, deals.Product, func(o offers, fallback [2]int, p spot) {
		u, v := minus(p.x, whole(fallback[0])), minus(p.y, whole(fallback[1]))
		if !isDeal(o, p) || u.Sign() <= 0 || v.Sign() <= 0 {
			t.Fatalf("Product(%v, %v) = %v", o, fallback, p)
		}
		product := times(u, v)
		for _, q := range o {
			sum := plus(times(v, whole(q[0]-fallback[0])), times(u, whole(q[1]-fallback[1])))
			if sum.Cmp(plus(product, product)) > 0 {
				t.Fatalf("Product(%v, %v) = %v, but there is %v", o, fallback, p, q)
			}
		}
		if isOffer(o, p) {
			corner++
		} else {
			between++
		}
	})
	if between < 200 || corner < 200 {
		t.Error(between, corner)
	}
}

func isOffer(o offers, s spot) bool {
	return slices.ContainsFunc(o, func(p [2]int) bool {
		return s.x.Cmp(whole(p[0])) == 0 && s.y.Cmp(whole(p[1])) == 0
	})
}

// P5.3: the words of the chapter.
func TestBestAll(t *testing.T) {
	both, less := 0, 0
	eachSettled(t, deals.Best, func(o offers, fallback [2]int, p spot) {
		most := mostOf(o, fallback)
		if !isLastOn(o, fallback, most, p) || p.x.Cmp(most.x) > 0 {
			t.Fatalf("Best(%v, %v) = %v on the way to %v", o, fallback, p, most)
		}
		if p.x.Cmp(most.x) == 0 {
			both++
		} else {
			less++
		}
	})
	if both < 200 || less < 200 {
		t.Error(both, less)
	}
}

// P5.3: the words of the chapter.
func TestHalvesAll(t *testing.T) {
	edge, below := 0, 0
	eachSettled(t, deals.Halves, func(o offers, fallback [2]int, p spot) {
		way := spot{whole(fallback[0] + 1), whole(fallback[1] + 1)}
		if !isLastOn(o, fallback, way, p) {
			t.Fatalf("Halves(%v, %v) = %v", o, fallback, p)
		}
		if isOnEdge(o, p) {
			edge++
		} else {
			below++
		}
	})
	if edge < 200 || below < 200 {
		t.Error(edge, below)
	}
}

// isLastOn reports whether p is the last deal on the way from the fallback
// through the point way, which gives both more.
func isLastOn(o offers, fallback [2]int, way, p spot) bool {
	u, v := minus(p.x, whole(fallback[0])), minus(p.y, whole(fallback[1]))
	a, b := minus(way.x, whole(fallback[0])), minus(way.y, whole(fallback[1]))
	return a.Sign() > 0 && b.Sign() > 0 && times(u, b).Cmp(times(v, a)) == 0 && u.Sign() >= 0 && isDeal(o, p) && isTop(o, p)
}

// eachSettled calls f with what a settling is in all cases with room, and tests
// that it is ErrNone in the others.
func eachSettled(t *testing.T, settle settling, f func(o offers, fallback [2]int, p spot)) {
	t.Helper()
	eachCase(t, func(o offers, fallback [2]int, room bool) {
		before := slices.Clone(o)
		p, e := settle(o, fallback)
		if !slices.Equal(o, before) {
			t.Fatalf("%v became %v", before, o)
		}
		if !room {
			if p != (deals.Point{}) || e != api.ErrNone {
				t.Fatalf("no room in %v, %v: %v, %v", o, fallback, p, e)
			}
			return
		}
		if !isValid(p) || e != api.OK {
			t.Fatalf("%v, %v: %v, %v", o, fallback, p, e)
		}
		f(o, fallback, spotOf(p))
	})
}

// P5.3: ErrNone.
func TestNoRoom(t *testing.T) {
	tests := []struct {
		o        offers
		fallback [2]int
		want     api.Errno
	}{
		{offers{{0, 10}, {10, 0}}, [2]int{5, 5}, api.ErrNone}, // on the edge
		{offers{{0, 10}, {10, 0}}, [2]int{4, 5}, api.OK},
		{offers{{0, 10}, {10, 0}}, [2]int{6, 5}, api.ErrNone},
		{offers{{0, 10}, {10, 0}}, [2]int{0, 10}, api.ErrNone},
		{offers{{0, 10}, {10, 0}}, [2]int{0, 9}, api.OK},
		{offers{{0, 10}, {10, 0}}, [2]int{10, 0}, api.ErrNone},
		{offers{{0, 10}, {10, 0}}, [2]int{0, 30}, api.ErrNone},
		{offers{{0, 10}, {10, 0}}, [2]int{30, 30}, api.ErrNone},
		{offers{{0, 10}}, [2]int{0, 0}, api.ErrNone}, // nothing for one of them
		{offers{{10, 0}, {3, 0}}, [2]int{0, 0}, api.ErrNone},
		{offers{{0, 0}}, [2]int{0, 0}, api.ErrNone},
		{offers{{5, 5}}, [2]int{5, 4}, api.ErrNone},
		{offers{{5, 5}}, [2]int{4, 5}, api.ErrNone},
		{offers{{5, 5}}, [2]int{4, 4}, api.OK},
		{offers{{5, 5}, {9, 0}}, [2]int{5, 4}, api.OK},
		{offers{{5, 5}, {9, 0}}, [2]int{4, 5}, api.ErrNone},
	}
	for _, c := range tests {
		for name, f := range settlings() {
			if got, e := f(c.o, c.fallback); e != c.want || e != api.OK && got != (deals.Point{}) {
				t.Errorf("%s(%v, %v) = %v, %v", name, c.o, c.fallback, got, e)
			}
		}
	}
}

// P5.3: ErrArg is before ErrNone.
func TestSettlingErrors(t *testing.T) {
	for name, f := range settlings() {
		for _, fallback := range notFallbacks() {
			for _, o := range []offers{{{0, 10}, {10, 0}}, {{0, 0}}} {
				if got, e := f(o, fallback); got != (deals.Point{}) || e != api.ErrArg {
					t.Errorf("%s(%v, %v) = %v, %v", name, o, fallback, got, e)
				}
			}
		}
		eachNotOffers(t, func(kind string, o offers) {
			for _, fallback := range [][2]int{{0, 0}, {30, 30}, {31, 0}} {
				if got, e := f(o, fallback); got != (deals.Point{}) || e != api.ErrArg {
					t.Errorf("%s, %s = %v, %v", kind, name, got, e)
				}
			}
		})
	}
}

// P5.7: all three are deals above the fallback, and no deal gives both more;
// Product is on the edge.
func TestSettlingsAreDeals(t *testing.T) {
	for name, f := range settlings() {
		eachSettled(t, f, func(o offers, fallback [2]int, p spot) {
			above := p.x.Cmp(whole(fallback[0])) > 0 && p.y.Cmp(whole(fallback[1])) > 0
			if is, e := deals.Is(o, pointOf(p)); !is || e != api.OK || !above || !isTop(o, p) {
				t.Errorf("%s(%v, %v) = %v", name, o, fallback, p)
			}
			if name == "Product" && !isOnEdge(o, p) {
				t.Errorf("%s(%v, %v) = %v is not on the edge", name, o, fallback, p)
			}
		})
	}
}

// P5.9: leaving out an offer, so that Product is still a deal, leaves it.
func TestProductOfLess(t *testing.T) {
	still, changed := 0, 0
	eachSettled(t, deals.Product, func(o offers, fallback [2]int, p spot) {
		for drop := range o {
			less, e := deals.Less(o, drop)
			if e != api.OK {
				continue
			}
			is, e := deals.Is(less, pointOf(p))
			if e != api.OK {
				t.Fatal(less, p, e)
			}
			if !is {
				changed++
				continue
			}
			still++
			if q, e := deals.Product(less, fallback); !isSame(q, p) || e != api.OK {
				t.Errorf("Product(%v, %v) = %v, not %v", less, fallback, q, p)
			}
		}
	})
	if still < 500 || changed < 500 {
		t.Error(still, changed)
	}
}

// P5.10: where Swap has the same deals, and the fallback is the same for both,
// all three give both the same.
func TestEqual(t *testing.T) {
	tested := 0
	for _, o := range equalOffers() {
		for n := range 31 {
			for name, f := range settlings() {
				p, e := f(o, [2]int{n, n})
				if room := hasRoom(o, [2]int{n, n}); e == api.OK != room || p.X != p.Y {
					t.Errorf("%s(%v, %v) = %v, %v", name, o, n, p, e)
				}
				if e == api.OK {
					tested++
				}
			}
		}
	}
	if tested < 500 {
		t.Error(tested)
	}
}

// equalOffers are offers of which Swap has the same deals, though it need not
// have the same offers.
func equalOffers() []offers {
	list := []offers{{{7, 7}}, {{7, 7}, {3, 6}}, {{0, 12}, {12, 0}, {1, 2}}, {{9, 3}, {3, 9}, {8, 3}, {5, 6}}}
	for _, o := range someOffers() {
		var both offers
		for _, p := range o {
			if len(both) > 5 {
				break
			}
			for _, q := range [][2]int{p, {p[1], p[0]}} {
				if !slices.Contains(both, q) {
					both = append(both, q)
				}
			}
		}
		list = append(list, both)
	}
	return list
}

// P5.11: with one offer more, Halves gives nobody less, where there was room.
func TestHalvesOfMore(t *testing.T) {
	next := walk(37)
	more, same := 0, 0
	eachSettled(t, deals.Halves, func(o offers, fallback [2]int, p spot) {
		for range 3 {
			extra := [2]int{next(31), next(31)}
			if len(o) == 8 || slices.Contains(o, extra) {
				continue
			}
			q, e := deals.Halves(slices.Insert(slices.Clone(o), next(len(o)+1), extra), fallback)
			if e != api.OK || q.X.Den < 1 || q.Y.Den < 1 || rat(q.X).Cmp(p.x) < 0 || rat(q.Y).Cmp(p.y) < 0 {
				t.Fatalf("Halves(%v and %v, %v) = %v, %v, before it %v", o, extra, fallback, q, e, p)
			}
			if isSame(q, p) {
				same++
			} else {
				more++
			}
		}
	})
	if more < 200 || same < 200 {
		t.Error(more, same)
	}
}

// P5.8: Product and Best of Scale, with the fallback scaled, are those scaled.
func TestSettlingsScaled(t *testing.T) {
	tested := 0
	for name, f := range map[string]settling{"Product": deals.Product, "Best": deals.Best} {
		eachSettled(t, f, func(o offers, fallback [2]int, p spot) {
			for _, by := range [][2]int{{1, 2}, {3, 1}, {2, 5}, {15, 7}} {
				scaled, e := deals.Scale(o, by[0], by[1])
				if e != api.OK {
					continue
				}
				want := spot{times(p.x, whole(by[0])), times(p.y, whole(by[1]))}
				q, e := f(scaled, [2]int{by[0] * fallback[0], by[1] * fallback[1]})
				if !isSame(q, want) || e != api.OK {
					t.Errorf("%s(%v, %v) scaled by %v is %v, %v", name, o, fallback, by, q, e)
				}
				tested++
			}
		})
	}
	if tested < 1000 {
		t.Error(tested)
	}
}

// P5.8: all three of Swap are those swapped.
func TestSettlingsSwapped(t *testing.T) {
	for name, f := range settlings() {
		eachSettled(t, f, func(o offers, fallback [2]int, p spot) {
			swapped, e := deals.Swap(o)
			if e != api.OK {
				t.Fatal(o, e)
			}
			if q, e := f(swapped, [2]int{fallback[1], fallback[0]}); !isSame(q, spot{p.y, p.x}) || e != api.OK {
				t.Errorf("%s(%v, %v) swapped is %v, %v", name, o, fallback, q, e)
			}
		})
	}
}

// P5.9 names the fallback: where there is room, it is a deal.
func TestFallbackIsDeal(t *testing.T) {
	eachCase(t, func(o offers, fallback [2]int, room bool) {
		is, e := deals.Is(o, wholePoint(fallback[0], fallback[1]))
		if e != api.OK || room && !is || is != isDeal(o, wholeSpot(fallback)) {
			t.Errorf("Is(%v, %v) = %v, %v", o, fallback, is, e)
		}
	})
}
