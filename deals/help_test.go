package deals_test

import (
	"fmt"
	"math"
	"math/big"
	"slices"
	"testing"

	"congou/api"
	"congou/deals"
)

type offers = [][2]int

func frac(num, den int) api.Frac { return api.Frac{Num: num, Den: den} }

func rat(f api.Frac) *big.Rat { return big.NewRat(int64(f.Num), int64(f.Den)) }

func whole(n int) *big.Rat { return big.NewRat(int64(n), 1) }

func plus(a, b *big.Rat) *big.Rat { return new(big.Rat).Add(a, b) }

func minus(a, b *big.Rat) *big.Rat { return new(big.Rat).Sub(a, b) }

func times(a, b *big.Rat) *big.Rat { return new(big.Rat).Mul(a, b) }

func greater(a, b *big.Rat) *big.Rat {
	if a.Cmp(b) > 0 {
		return a
	}
	return b
}

func point(x, y api.Frac) deals.Point { return deals.Point{X: x, Y: y} }

func wholePoint(x, y int) deals.Point { return point(frac(x, 1), frac(y, 1)) }

// isExact reports whether f is the valid Frac with the value r.
func isExact(f api.Frac, r *big.Rat) bool {
	return r.Num().IsInt64() && r.Denom().IsInt64() && int64(f.Num) == r.Num().Int64() && int64(f.Den) == r.Denom().Int64()
}

// isValid reports whether p has valid Fracs.
func isValid(p deals.Point) bool {
	return p.X.Den >= 1 && p.Y.Den >= 1 && isExact(p.X, rat(p.X)) && isExact(p.Y, rat(p.Y))
}

// spot is a point to reckon with.
type spot struct{ x, y *big.Rat }

func spotOf(p deals.Point) spot { return spot{rat(p.X), rat(p.Y)} }

func wholeSpot(p [2]int) spot { return spot{whole(p[0]), whole(p[1])} }

func (s spot) String() string { return fmt.Sprint(s.x.RatString(), " ", s.y.RatString()) }

func isSame(p deals.Point, s spot) bool { return isExact(p.X, s.x) && isExact(p.Y, s.y) }

// mixed returns the mixture of p and q with the part part of q.
func mixed(p, q [2]int, part *big.Rat) spot {
	return spot{
		plus(whole(p[0]), times(part, whole(q[0]-p[0]))),
		plus(whole(p[1]), times(part, whole(q[1]-p[1]))),
	}
}

// atLeast returns from which to which part of q the mixtures of p and q give
// both at least s, and whether there are such.
func atLeast(p, q [2]int, s spot) (from, to *big.Rat, ok bool) {
	from, to = whole(0), whole(1)
	for i, want := range []*big.Rat{s.x, s.y} {
		way := q[i] - p[i]
		lack := minus(want, whole(p[i]))
		if way == 0 {
			if lack.Sign() > 0 {
				return nil, nil, false
			}
			continue
		}
		part := lack.Quo(lack, whole(way))
		if way > 0 {
			from = greater(from, part)
		} else if part.Cmp(to) < 0 {
			to = part
		}
	}
	return from, to, from.Cmp(to) <= 0
}

// eachMixture calls f with the ends of each line of mixtures of two offers (or
// of one) that give both at least s. Mixtures of more offers give no more.
func eachMixture(o offers, s spot, f func(from, to spot)) {
	for i, p := range o {
		for _, q := range o[i:] {
			if from, to, ok := atLeast(p, q, s); ok {
				f(mixed(p, q, from), mixed(p, q, to))
			}
		}
	}
}

// isDeal is the term of the chapter.
func isDeal(o offers, s spot) bool {
	found := false
	eachMixture(o, s, func(from, to spot) { found = true })
	return found && s.x.Sign() >= 0 && s.y.Sign() >= 0
}

// isTop reports whether no deal gives both more than s. Where each gets more
// somewhere on a line of mixtures, both do in its middle.
func isTop(o offers, s spot) bool {
	top := true
	eachMixture(o, s, func(from, to spot) {
		middle := spot{plus(from.x, to.x), plus(from.y, to.y)}
		if middle.x.Cmp(plus(s.x, s.x)) > 0 && middle.y.Cmp(plus(s.y, s.y)) > 0 {
			top = false
		}
	})
	return top
}

// isOnEdge reports whether s is a deal and no other one gives both at least as
// much.
func isOnEdge(o offers, s spot) bool {
	alone := true
	eachMixture(o, s, func(from, to spot) {
		for _, end := range []spot{from, to} {
			if end.x.Cmp(s.x) != 0 || end.y.Cmp(s.y) != 0 {
				alone = false
			}
		}
	})
	return alone && isDeal(o, s)
}

func hasRoom(o offers, fallback [2]int) bool { return !isTop(o, wholeSpot(fallback)) }

// mostOf returns the most that each gets of deals that give the other one at
// least the fallback.
func mostOf(o offers, fallback [2]int) spot {
	most := spot{whole(0), whole(0)}
	eachMixture(o, spot{whole(0), whole(fallback[1])}, func(from, to spot) {
		most.x = greater(most.x, greater(from.x, to.x))
	})
	eachMixture(o, spot{whole(fallback[0]), whole(0)}, func(from, to spot) {
		most.y = greater(most.y, greater(from.y, to.y))
	})
	return most
}

// edgeOf returns the corners of the edge, by the words of the chapter.
func edgeOf(o offers) offers {
	var edge, list offers
	for _, p := range o {
		if isOnEdge(o, wholeSpot(p)) {
			edge = append(edge, p)
		}
	}
	for _, p := range edge {
		if !isBetweenTwo(edge, p) {
			list = append(list, p)
		}
	}
	slices.SortFunc(list, func(p, q [2]int) int { return p[0] - q[0] })
	return list
}

func isBetweenTwo(list offers, p [2]int) bool {
	for _, q := range list {
		for _, r := range list {
			a, b := p[0]-q[0], p[1]-q[1]
			c, d := r[0]-p[0], r[1]-p[1]
			if q != p && r != p && a*d == b*c && a*c+b*d > 0 {
				return true
			}
		}
	}
	return false
}

// someOffers are offers of all kinds, and such as a fixed walk comes to.
func someOffers() []offers {
	list := []offers{
		{{0, 10}, {10, 0}},
		{{0, 10}, {20, 0}},
		{{0, 0}}, {{30, 30}}, {{0, 7}}, {{7, 0}}, {{4, 9}},
		{{0, 0}, {0, 1}, {0, 30}},                // nothing for the first one
		{{3, 5}, {3, 9}, {3, 0}},                 // one x
		{{5, 3}, {9, 3}, {0, 3}},                 // one y
		{{0, 30}, {30, 0}, {30, 30}},             // one is best for both
		{{0, 9}, {3, 6}, {6, 3}, {9, 0}},         // all in one line
		{{9, 0}, {6, 3}, {0, 9}, {3, 6}, {2, 2}}, // and in another order
		{{0, 6}, {4, 4}, {6, 0}},                 // a corner in the middle
		{{0, 6}, {2, 2}, {6, 0}},                 // and none
		{{0, 10}, {6, 10}, {10, 6}, {10, 0}},     // ends that are not on the edge
		{{2, 20}, {12, 18}, {20, 12}, {24, 2}, {22, 3}, {23, 7}, {1, 1}, {0, 0}},
		{{0, 30}, {1, 29}, {29, 1}, {30, 0}, {2, 28}, {28, 2}, {15, 15}, {16, 14}},
		{{0, 30}, {30, 29}}, {{29, 30}, {30, 0}}, {{1, 29}, {30, 28}, {2, 30}},
		{{0, 30}, {10, 29}, {17, 27}, {22, 24}, {26, 19}, {28, 13}, {29, 7}, {30, 0}},
		{{0, 29}, {29, 0}, {13, 16}, {14, 16}}, {{7, 23}, {30, 0}, {0, 24}},
	}
	return append(list, walkedOffers(150)...)
}

// walkedOffers returns n offers that a fixed walk comes to.
func walkedOffers(n int) []offers {
	next := walk(29)
	var list []offers
	for range n {
		var o offers
		top := []int{4, 10, 31}[next(3)]
		for range 1 + next(8) {
			p := [2]int{next(top), next(top)}
			if next(3) > 0 { // nearer to an edge
				p[1] = max(0, top-1-p[0]*p[0]/top)
			}
			if !slices.Contains(o, p) {
				o = append(o, p)
			}
		}
		list = append(list, o)
	}
	return list
}

// smallOffers returns all offers of one to three pairs from 0 to 2.
func smallOffers() []offers {
	var pairs offers
	for x := range 3 {
		for y := range 3 {
			pairs = append(pairs, [2]int{x, y})
		}
	}
	var list []offers
	for i, p := range pairs {
		list = append(list, offers{p})
		for j, q := range pairs[:i] {
			list = append(list, offers{p, q})
			for _, r := range pairs[:j] {
				list = append(list, offers{p, q, r})
			}
		}
	}
	return list
}

// someFallbacks are some for offers of the index i: 0 0, one that both know, and
// such as a fixed walk comes to.
func someFallbacks(i int, o offers) [][2]int {
	next := walk(uint32(i))
	list := [][2]int{{0, 0}, o[0], {o[0][0] / 2, o[0][1] / 3}, {1, 0}, {0, 2}}
	for range 4 {
		p, q := o[next(len(o))], o[next(len(o))]
		list = append(list, [2]int{(p[0] + q[0]) / (2 + next(3)), (p[1] + q[1]) / (2 + next(3))})
	}
	return append(list, [2]int{next(31), next(31)})
}

// eachCase calls f with offers and fallbacks of all kinds, and tells whether
// there is room.
func eachCase(t *testing.T, f func(o offers, fallback [2]int, room bool)) {
	t.Helper()
	with, without := 0, 0
	count := func(o offers, fallback [2]int) {
		room := hasRoom(o, fallback)
		if room {
			with++
		} else {
			without++
		}
		f(o, fallback, room)
	}
	for i, o := range someOffers() {
		for _, fallback := range someFallbacks(i, o) {
			count(o, fallback)
		}
	}
	for _, o := range smallOffers() {
		for n := range 9 {
			count(o, [2]int{n / 3, n % 3})
		}
	}
	if with < 1000 || without < 1000 {
		t.Error(with, without)
	}
}

// walk returns a function that gives numbers below its argument.
func walk(state uint32) func(n int) int {
	return func(n int) int {
		state = state*1664525 + 1013904223
		return int(state>>16) % n
	}
}

// notOffers are slices that are no offers.
func notOffers() map[string]offers {
	nine := offers{{0, 0}, {0, 1}, {0, 2}, {0, 3}, {0, 4}, {0, 5}, {0, 6}, {0, 7}, {0, 8}}
	return map[string]offers{
		"nil":             nil,
		"empty":           {},
		"nine":            nine,
		"many":            make(offers, 10000),
		"31 at the front": {{31, 0}},
		"31 at the end":   {{10, 0}, {5, 31}},
		"-1 at the front": {{-1, 10}, {10, 0}},
		"-1 at the end":   {{0, 10}, {10, -1}},
		"the greatest":    {{0, 10}, {math.MaxInt, math.MaxInt}},
		"the least":       {{math.MinInt, math.MinInt}, {10, 10}},
		"twice":           {{4, 5}, {4, 5}},
		"twice, apart":    {{4, 5}, {5, 4}, {3, 3}, {4, 5}},
		"twice the last":  {{9, 0}, {0, 9}, {0, 9}},
		"twice 0 0":       {{0, 0}, {0, 0}, {9, 9}},
	}
}

// eachNotOffers calls f with what are no offers, and a copy must stay.
func eachNotOffers(t *testing.T, f func(name string, o offers)) {
	t.Helper()
	for name, o := range notOffers() {
		before := slices.Clone(o)
		f(name, o)
		if !slices.Equal(o, before) {
			t.Errorf("%s: %v became %v", name, before, o)
		}
	}
}

// notFallbacks are pairs that are no fallbacks.
func notFallbacks() [][2]int {
	return [][2]int{
		{-1, 0}, {0, -1}, {31, 0}, {0, 31}, {-1, -1}, {31, 31}, {-1, 31},
		{math.MaxInt, 0}, {0, math.MaxInt}, {math.MinInt, 0}, {0, math.MinInt}, {math.MinInt, math.MaxInt},
	}
}
