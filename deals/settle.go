package deals

import (
	"slices"

	"congou/api"
)

// settler is who settles, each in another way.
type settler int

const (
	byProduct settler = iota
	byBest
	byHalves
)

// Product returns the deal by product.
func Product(offers [][2]int, fallback [2]int) (Point, api.Errno) {
	return settle(byProduct, offers, fallback)
}

// Best returns the deal by the best.
func Best(offers [][2]int, fallback [2]int) (Point, api.Errno) {
	return settle(byBest, offers, fallback)
}

// Halves returns the deal by halves.
func Halves(offers [][2]int, fallback [2]int) (Point, api.Errno) {
	return settle(byHalves, offers, fallback)
}

// settle reckons with gains, what both get above the fallback: the corners and
// limits are moved so that the fallback is at 0 0.
func settle(who settler, offers [][2]int, fallback [2]int) (Point, api.Errno) {
	if !areOffers(offers) || !isPair(fallback) {
		return Point{}, api.ErrArg
	}
	gains := each(corners(offers), func(p [2]int) [2]int {
		return [2]int{p[0] - fallback[0], p[1] - fallback[1]}
	})
	bounds := limits(gains)
	if !isRoom(bounds) {
		return Point{}, api.ErrNone
	}
	var p Point
	switch who {
	case byProduct:
		p = greatestProduct(gains)
	case byBest:
		p = lastOn(most(bounds), bounds)
	case byHalves:
		p = lastOn(Point{X: whole(1), Y: whole(1)}, bounds)
	}
	return Point{X: plus(p.X, whole(fallback[0])), Y: plus(p.Y, whole(fallback[1]))}, api.OK
}

// isRoom reports whether both can gain: a little for both keeps each limit that
// nothing for both does not reach.
func isRoom(bounds []limit) bool {
	return !slices.ContainsFunc(bounds, func(l limit) bool { return l.c <= 0 })
}

// greatestProduct returns that of the points of the edge with the greatest
// product. No point of the edge is below 0 twice if there is room, so that a
// product above 0 is one of two gains.
func greatestProduct(corners [][2]int) Point {
	best := point(corners[0])
	for i := 1; i < len(corners); i++ {
		p := greatestBetween(corners[i-1], corners[i])
		if compare(times(best.X, best.Y), times(p.X, p.Y)) < 0 {
			best = p
		}
	}
	return best
}

// greatestBetween returns the point from p to q, which has more x and less y,
// with the greatest product. On the line through them the product is greatest in
// the middle between its ends at the axes, and falls from there both ways.
func greatestBetween(p, q [2]int) Point {
	l := through(p, q)
	middle := Point{X: quotient(l.c, 2*l.a), Y: quotient(l.c, 2*l.b)}
	if compare(middle.X, whole(p[0])) < 0 {
		return point(p)
	}
	if compare(middle.X, whole(q[0])) > 0 {
		return point(q)
	}
	return middle
}

// most returns the most that each can gain while the other one gains nothing.
func most(bounds []limit) Point {
	return Point{
		X: reach(Point{X: whole(1), Y: whole(0)}, bounds),
		Y: reach(Point{X: whole(0), Y: whole(1)}, bounds),
	}
}

// lastOn returns the last point within the bounds on the way from 0 0 through
// the point way.
func lastOn(way Point, bounds []limit) Point {
	far := reach(way, bounds)
	return Point{X: times(way.X, far), Y: times(way.Y, far)}
}

// reach returns how many times the point way, which is not 0 0, is within the
// bounds. A bound along the way ends nothing.
func reach(way Point, bounds []limit) api.Frac {
	var list []api.Frac
	for _, l := range bounds {
		step := plus(times(whole(l.a), way.X), times(whole(l.b), way.Y))
		if step.Num > 0 {
			list = append(list, quotient(l.c*step.Den, step.Num))
		}
	}
	return slices.MinFunc(list, compare)
}

func point(p [2]int) Point { return Point{X: whole(p[0]), Y: whole(p[1])} }
