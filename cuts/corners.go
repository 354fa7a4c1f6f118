package cuts

import (
	"cmp"
	"iter"
	"slices"

	"congou/api"
)

// The greatest factor of a sum that Best and Bound look for, without sign.
const maxAim = 9

// Corners returns all corners of a plate.
func Corners(p []Side) ([]Point, api.Errno) {
	if !isPlate(p) {
		return nil, api.ErrArg
	}
	sorted := slices.SortedFunc(corners(p), comparePoints)
	return slices.Compact(sorted), api.OK
}

// Bound returns the greatest a x + b y of a point of the plate, which a corner
// reaches, as a plate has an end.
func Bound(p []Side, a, b int) (api.Frac, api.Errno) {
	if !isPlate(p) || !allWithin(-maxAim, maxAim, a, b) {
		return api.Frac{}, api.ErrArg
	}
	var best api.Frac
	found := false
	for c := range corners(p) {
		sum := fraction(a*c.X.Num*c.Y.Den+b*c.Y.Num*c.X.Den, c.X.Den*c.Y.Den)
		if !found || compare(sum, best) > 0 {
			best = sum
		}
		found = true
	}
	if !found {
		return api.Frac{}, api.ErrNone
	}
	return best, api.OK
}

// corners yields all corners of p, and one anew for each two sides that meet
// there.
func corners(p []Side) iter.Seq[Point] {
	return func(yield func(Point) bool) {
		for s, t := range pairs(p) {
			c, ok := meeting(s, t)
			if ok && allKeep(c, p...) && !yield(c) {
				return
			}
		}
	}
}

// meeting returns the point at which both sides are reached, and whether there
// is just one.
func meeting(s, t Side) (Point, bool) {
	den := cross(s, t)
	if den == 0 {
		return Point{}, false
	}
	return Point{
		X: fraction(s.C*t.B-s.B*t.C, den),
		Y: fraction(s.A*t.C-s.C*t.A, den),
	}, true
}

func comparePoints(a, b Point) int {
	return cmp.Or(compare(a.X, b.X), compare(a.Y, b.Y))
}
