package curves

import (
	"slices"

	"congou/api"
)

// Insert returns the poles of the same curve with k as a knot more.
func Insert(c Curve, k int) ([]api.Frac, api.Errno) {
	if !isCurve(c) {
		return nil, api.ErrArg
	}
	if begin, end := span(c); k < begin || k >= end {
		return nil, api.ErrArg
	}
	if len(c.Poles) == api.MaxPoles {
		return nil, api.ErrSize
	}
	from, _ := slices.BinarySearch(c.Knots, k)
	behind, _ := slices.BinarySearch(c.Knots, k+1)
	if behind-from > c.Degree {
		return nil, api.ErrNone
	}
	return fracs(cutCorners(c, k, behind-1)), api.OK
}

// cutCorners returns the poles with k as a knot more, the last knot up to which
// has the index j. As k is below the end of the span, j is an index of a pole,
// and from the Degree on; so the first pole and the last one stay.
func cutCorners(c Curve, k, j int) []ratio {
	var poles []ratio
	for i := range len(c.Poles) + 1 {
		switch {
		case i <= j-c.Degree:
			poles = append(poles, whole(c.Poles[i]))
		case i > j:
			poles = append(poles, whole(c.Poles[i-1]))
		default:
			a := whole(k).part(c.Knots[i], c.Knots[i+c.Degree])
			way := whole(c.Poles[i] - c.Poles[i-1])
			poles = append(poles, whole(c.Poles[i-1]).plus(a.times(way)))
		}
	}
	return poles
}
