package curves

import (
	"slices"

	"congou/api"
)

// maxSigns is how many numbers Changes takes.
const maxSigns = 20

// Slope returns the curve of the slopes of c.
func Slope(c Curve) (degree int, knots []int, poles []api.Frac, e api.Errno) {
	if !isCurve(c) {
		return 0, nil, nil, api.ErrArg
	}
	if c.Degree == 0 {
		return 0, nil, nil, api.ErrNone
	}
	inner := c.Knots[1 : len(c.Knots)-1]
	for i, pole := range c.Poles[1:] {
		rise := c.Degree * (pole - c.Poles[i])
		poles = append(poles, steepness(rise, inner[i+c.Degree]-inner[i]).Frac)
	}
	return c.Degree - 1, slices.Clone(inner), poles, api.OK
}

// steepness returns how steep it is to rise on a way, and 0 if there is no way.
func steepness(rise, way int) ratio {
	if way == 0 {
		return whole(0)
	}
	return quotient(rise, way)
}

// Means returns for each pole the average of the knots to which it belongs.
func Means(c Curve) ([]api.Frac, api.Errno) {
	if !isCurve(c) {
		return nil, api.ErrArg
	}
	if c.Degree == 0 {
		return nil, api.ErrNone
	}
	var means []api.Frac
	for i := range c.Poles {
		sum := 0
		for _, k := range c.Knots[i+1 : i+1+c.Degree] {
			sum += k
		}
		means = append(means, quotient(sum, c.Degree).Frac)
	}
	return means, api.OK
}

// Changes returns how often the sign changes, 0s left out.
func Changes(l []int) (int, api.Errno) {
	if len(l) > maxSigns || !arePoles(l) {
		return 0, api.ErrArg
	}
	changes, last := 0, 0
	for _, v := range l {
		if v*last < 0 {
			changes++
		}
		if v != 0 {
			last = v
		}
	}
	return changes, api.OK
}
