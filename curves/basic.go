package curves

import "congou/api"

// maxDen is the greatest Den of a t.
const maxDen = 12

// place is a t of a curve with the piece that it belongs to, from the knot with
// that index to the next one.
type place struct {
	ratio
	piece int
}

// Basic returns all basic curves of the Degree of c at t.
func Basic(c Curve, t api.Frac) ([]api.Frac, api.Errno) {
	if !isCurve(c) || !isWithin(t, c) {
		return nil, api.ErrArg
	}
	return fracs(basics(c, placeOf(t, c))), api.OK
}

// Value returns the value of c at t.
func Value(c Curve, t api.Frac) (api.Frac, api.Errno) {
	if !isCurve(c) || !isWithin(t, c) {
		return api.Frac{}, api.ErrArg
	}
	sum := whole(0)
	for i, b := range basics(c, placeOf(t, c)) {
		sum = sum.plus(b.times(whole(c.Poles[i])))
	}
	return sum.Frac, api.OK
}

// isWithin reports whether t is valid and within the span of c.
func isWithin(t api.Frac, c Curve) bool {
	if t.Den < 1 || t.Den > maxDen {
		return false
	}
	begin, end := span(c)
	if t.Num < begin*t.Den || t.Num > end*t.Den {
		return false
	}
	return t == quotient(t.Num, t.Den).Frac
}

// placeOf returns the place of t, which is within the span of c. Where pieces
// meet, the later one has t, but the last one also has the end of the span.
func placeOf(t api.Frac, c Curve) place {
	i := len(c.Poles) - 1
	for c.Knots[i] == c.Knots[i+1] || c.Knots[i]*t.Den > t.Num {
		i--
	}
	return place{ratio{t}, i}
}

// basics returns the basic curves of the Degree of c at p: those of degree 0,
// of which that of the piece alone is not 0, and from them those of each
// further degree, which are one less.
func basics(c Curve, p place) []ratio {
	k := c.Knots
	list := make([]ratio, len(k)-1)
	for i := range list {
		list[i] = whole(0)
	}
	list[p.piece] = whole(1)
	for d := 1; d <= c.Degree; d++ {
		for i := range len(list) - 1 {
			rising := p.part(k[i], k[i+d]).times(list[i])
			falling := p.part(k[i+d+1], k[i+1]).times(list[i+1])
			list[i] = rising.plus(falling)
		}
		list = list[:len(list)-1]
	}
	return list
}
