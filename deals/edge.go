package deals

import (
	"slices"

	"congou/api"
)

// The greatest Den of a point that Is judges.
const mostDen = 1000000

// limit is what all deals keep: a times what the first one gets and b times
// what the second one gets are together at most c. Neither a nor b is below 0,
// and not both are 0.
type limit struct{ a, b, c int }

// Edge returns the corners of the edge.
func Edge(offers [][2]int) ([][2]int, api.Errno) {
	if !areOffers(offers) {
		return nil, api.ErrArg
	}
	return corners(offers), api.OK
}

// Is reports whether a point is a deal.
func Is(offers [][2]int, p Point) (bool, api.Errno) {
	if !areOffers(offers) || !isPlace(p.X) || !isPlace(p.Y) {
		return false, api.ErrArg
	}
	beyond := slices.ContainsFunc(limits(corners(offers)), func(l limit) bool {
		return l.a*p.X.Num*p.Y.Den+l.b*p.Y.Num*p.X.Den > l.c*p.X.Den*p.Y.Den
	})
	return !beyond, api.OK
}

func isPlace(f api.Frac) bool {
	return areWithin(1, mostDen, f.Den) && areWithin(0, mostOffered*f.Den, f.Num) && gcd(f.Num, f.Den) == 1
}

// corners returns the corners of the edge, by x rising. Along them y falls, as
// otherwise the later one would give both at least as much.
func corners(offers [][2]int) [][2]int {
	var list [][2]int
	for _, p := range byX(offers) {
		for isHidden(list, p) {
			list = list[:len(list)-1]
		}
		list = append(list, p)
	}
	return list
}

func byX(offers [][2]int) [][2]int {
	list := slices.Clone(offers)
	slices.SortFunc(list, func(p, q [2]int) int { return slices.Compare(p[:], q[:]) })
	return list
}

// isHidden reports whether the last one of a list of corners is no corner any
// more with p, which follows by x and then by y: p gives both at least as much,
// or mixtures of p and the corner before do.
func isHidden(list [][2]int, p [2]int) bool {
	n := len(list)
	if n == 0 {
		return false
	}
	last := list[n-1]
	if last[1] <= p[1] {
		return true
	}
	if n == 1 {
		return false
	}
	l := through(list[n-2], p)
	return l.a*last[0]+l.b*last[1] <= l.c
}

// limits returns what the deals with these corners of the edge keep: they are
// all points from 0 on that keep it.
func limits(corners [][2]int) []limit {
	top, right := corners[0][1], corners[len(corners)-1][0]
	list := []limit{{b: 1, c: top}, {a: 1, c: right}}
	for i := 1; i < len(corners); i++ {
		list = append(list, through(corners[i-1], corners[i]))
	}
	return list
}

// through returns the limit that both p and q just reach, where q has more x and
// less y.
func through(p, q [2]int) limit {
	a, b := p[1]-q[1], q[0]-p[0]
	return limit{a: a, b: b, c: a*p[0] + b*p[1]}
}
