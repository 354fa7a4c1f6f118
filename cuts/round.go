package cuts

import (
	"iter"

	"congou/api"
)

const (
	maxMultiplier = 100
	maxDen        = 100 // of a multiplier and of a point that is asked for
)

// Cut returns the cut of p with the multipliers m.
func Cut(p []Side, m []api.Frac) (Side, api.Errno) {
	if !isPlate(p) || !areMultipliers(p, m) {
		return Side{}, api.ErrArg
	}
	cut, ok := sumOf(p, m)
	if !ok {
		return Side{}, api.ErrNone
	}
	return cut, api.OK
}

// CheckCut reports whether there is a cut of p with the multipliers m that is s
// or lower than it.
func CheckCut(p []Side, m []api.Frac, s Side) (bool, api.Errno) {
	if !isPlate(p) || !areMultipliers(p, m) {
		return false, api.ErrArg
	}
	cut, ok := sumOf(p, m)
	return ok && cut.A == s.A && cut.B == s.B && cut.C <= s.C, api.OK
}

// InRound reports whether x is a point of the round of p.
//
// By the duality of linear programs the lowest cut with some A and B is one of
// two sides that meet at a corner. It is what the whole parts of its two
// multipliers make, which the sides themselves keep, and the cut with what is
// left of them. So the sides and the cuts with multipliers below 1 of two
// sides each are enough. A plate without points has multipliers that make 0,
// 0 and a C below 0, so that no point keeps all of its cuts, and none keeps
// all of its sides.
func InRound(p []Side, x Point) (bool, api.Errno) {
	if !isPlate(p) || !isPlace(x.X) || !isPlace(x.Y) {
		return false, api.ErrArg
	}
	if !allKeep(x, p...) {
		return false, api.OK
	}
	for cut := range smallCuts(p) {
		if !allKeep(x, cut) {
			return false, api.OK
		}
	}
	return true, api.OK
}

func areMultipliers(p []Side, m []api.Frac) bool {
	if len(m) != len(p) {
		return false
	}
	for _, f := range m {
		if !isFrac(f, 0, maxMultiplier, maxDen) {
			return false
		}
	}
	return true
}

func isPlace(f api.Frac) bool { return isFrac(f, -maxPlace, maxPlace, maxDen) }

// sumOf returns the cut with the multipliers m, and whether they make one. The
// common denominator is at most 100^6, and a sum 6 * 100 * 40 times that.
func sumOf(p []Side, m []api.Frac) (Side, bool) {
	den := 1
	for _, f := range m {
		den *= f.Den / gcd(den, f.Den)
	}
	var sum Side
	for i, f := range m {
		sum = plus(sum, p[i], f.Num*(den/f.Den))
	}
	return divide(sum, den)
}

// smallCuts yields the cuts of each two sides of p that are not in one line,
// with multipliers below 1. A multiplier of such a cut is a whole number
// divided by the cross of both.
func smallCuts(p []Side) iter.Seq[Side] {
	return func(yield func(Side) bool) {
		for s, t := range pairs(p) {
			den := max(cross(s, t), -cross(s, t))
			for k := range den * den {
				sum := plus(plus(Side{}, s, k/den), t, k%den)
				if cut, ok := divide(sum, den); ok && !yield(cut) {
					return
				}
			}
		}
	}
}

// plus returns s and k times t.
func plus(s, t Side, k int) Side {
	return Side{A: s.A + k*t.A, B: s.B + k*t.B, C: s.C + k*t.C}
}

// divide returns the cut that is s divided by den, and whether it is one.
func divide(s Side, den int) (Side, bool) {
	if s.A == 0 && s.B == 0 || s.A%den != 0 || s.B%den != 0 {
		return Side{}, false
	}
	return Side{A: s.A / den, B: s.B / den, C: floor(s.C, den)}, true
}
