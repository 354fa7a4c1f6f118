package cuts

import (
	"iter"
	"slices"

	"congou/api"
)

// reach is at least X and Y, without sign, of all points of a plate: those of a
// corner are quotients of at most this and at least 1.
const reach = 2 * maxFactor * maxC

// Points returns all whole points of a plate.
func Points(p []Side) ([][2]int, api.Errno) {
	if !isPlate(p) {
		return nil, api.ErrArg
	}
	return slices.Collect(wholePoints(p)), api.OK
}

// Best returns the greatest a x + b y of a whole point.
func Best(p []Side, a, b int) (int, api.Errno) {
	if !isPlate(p) || !allWithin(-maxAim, maxAim, a, b) {
		return 0, api.ErrArg
	}
	best, found := 0, false
	for x := range wholePoints(p) {
		sum := a*x[0] + b*x[1]
		if !found || sum > best {
			best = sum
		}
		found = true
	}
	if !found {
		return 0, api.ErrNone
	}
	return best, api.OK
}

// Hull returns the corners of the hull of all whole points: those on the way
// from the least one to the greatest one, and those on the way back, where a
// way turns to the left alone.
func Hull(p []Side) ([][2]int, api.Errno) {
	if !isPlate(p) {
		return nil, api.ErrArg
	}
	points := slices.Collect(wholePoints(p))
	if len(points) == 0 {
		return nil, api.ErrNone
	}
	if len(points) == 1 {
		return points, api.OK
	}
	there := leftTurns(points)
	slices.Reverse(points)
	back := leftTurns(points)
	return slices.Concat(there[:len(there)-1], back[:len(back)-1]), api.OK
}

// wholePoints yields all whole points of p, rising.
func wholePoints(p []Side) iter.Seq[[2]int] {
	return func(yield func([2]int) bool) {
		for x := -reach; x <= reach; x++ {
			low, high := column(p, x)
			for y := low; y <= high; y++ {
				if !yield([2]int{x, y}) {
					return
				}
			}
		}
	}
}

// column returns from which y to which one (x, y) is in p; low is above high
// if there is none.
func column(p []Side, x int) (low, high int) {
	low, high = -reach, reach
	for _, s := range p {
		rest := s.C - s.A*x
		switch {
		case s.B > 0:
			high = min(high, floor(rest, s.B))
		case s.B < 0:
			low = max(low, -floor(rest, -s.B))
		case rest < 0:
			return 0, -1
		}
	}
	return low, high
}

// leftTurns returns the first point, the last one, and those between at which
// a way that leaves no point to its right turns to the left. The points are
// rising or falling.
func leftTurns(points [][2]int) [][2]int {
	var way [][2]int
	for _, x := range points {
		for len(way) >= 2 && !turnsLeft(way[len(way)-2], way[len(way)-1], x) {
			way = way[:len(way)-1]
		}
		way = append(way, x)
	}
	return way
}

func turnsLeft(a, b, c [2]int) bool {
	return (b[0]-a[0])*(c[1]-b[1]) > (b[1]-a[1])*(c[0]-b[0])
}
