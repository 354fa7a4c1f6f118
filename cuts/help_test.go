package cuts_test

import (
	"math"
	"math/big"
	"slices"
	"testing"

	"congou/api"
	"congou/cuts"
)

type plate = []cuts.Side

func frac(num, den int) api.Frac { return api.Frac{Num: num, Den: den} }

func point(x, y api.Frac) cuts.Point { return cuts.Point{X: x, Y: y} }

func rat(f api.Frac) *big.Rat { return big.NewRat(int64(f.Num), int64(f.Den)) }

func whole(n int) *big.Rat { return big.NewRat(int64(n), 1) }

func toFrac(r *big.Rat) api.Frac {
	return frac(int(r.Num().Int64()), int(r.Denom().Int64()))
}

// floor returns r rounded down.
func floor(r *big.Rat) int {
	return int(new(big.Int).Div(r.Num(), r.Denom()).Int64()) // Div rounds down above a Denom from 1 on
}

// sumAt returns a x + b y.
func sumAt(a, b int, x, y *big.Rat) *big.Rat {
	left := new(big.Rat).Mul(whole(a), x)
	return left.Add(left, new(big.Rat).Mul(whole(b), y))
}

func keeps(s cuts.Side, x cuts.Point) bool {
	return sumAt(s.A, s.B, rat(x.X), rat(x.Y)).Cmp(whole(s.C)) <= 0
}

func inPlate(p plate, x cuts.Point) bool {
	return !slices.ContainsFunc(p, func(s cuts.Side) bool { return !keeps(s, x) })
}

func wholePoint(x [2]int) cuts.Point { return point(frac(x[0], 1), frac(x[1], 1)) }

// example is the plate of the chapter's example.
func example() plate { return plate{{2, 2, 3}, {-1, 0, 0}, {0, -1, 0}} }

// box returns the plate from (x, y) to (u, v).
func box(x, y, u, v int) plate {
	return plate{{-1, 0, -x}, {0, -1, -y}, {1, 0, u}, {0, 1, v}}
}

// tooth has the corners 0 0, 1 0 and 1/2 2, and needs cuts of two sides.
func tooth() plate { return plate{{-4, 1, 0}, {4, 1, 4}, {0, -1, 0}} }

// somePlates are plates of all kinds, and such as a fixed walk comes to.
func somePlates() []plate {
	list := []plate{
		example(), tooth(),
		box(0, 0, 0, 0), box(-2, -1, 3, 1), box(-40, -40, 40, 40), box(1, 0, 0, 0),
		box(1, 1, 5, 1), box(2, -3, 2, 3),
		{{2, 0, 1}, {-2, 0, -1}, {0, 2, 1}, {0, -2, -1}},           // 1/2 1/2 alone
		{{2, 0, 1}, {-2, 0, 1}, {0, 2, 1}, {0, -2, 1}},             // 0 0 alone is whole
		{{4, 0, 3}, {-4, 0, -1}, {0, 1, 2}, {0, -1, 2}},            // no whole point
		{{1, 1, 1}, {-1, -1, -1}, {1, 0, 3}, {-1, 0, 2}},           // a part of a line
		{{2, 2, 1}, {-2, -2, -1}, {1, 0, 3}, {-1, 0, 2}},           // such without whole points
		{{1, 1, 0}, {-1, 1, 0}, {0, -1, 0}},                        // three sides through a corner
		{{1, 0, -1}, {-1, 1, 0}, {-1, -1, 0}},                      // no point
		{{1, 0, 5}, {1, 0, 2}, {1, 0, 2}, {-1, 1, 0}, {-1, -1, 0}}, // a side twice, and one too far
		{{4, 3, 40}, {-3, -2, 40}, {-1, -1, 40}},                   // long and thin
		{{4, 3, 40}, {-3, -4, 40}, {-4, -1, -40}},                  // steep
		{{1, 0, 3}, {1, 1, 4}, {0, 1, 3}, {-1, 0, 3}, {-1, -1, 4}, {0, -1, 3}},
		{{3, 1, 7}, {1, 3, 7}, {-3, 2, 5}, {2, -3, 5}, {-1, -1, 3}, {-4, 1, 9}},
		{{4, 4, 3}, {-4, 4, 3}, {4, -4, 3}, {-4, -4, 3}},
		{{3, -4, 40}, {-4, 3, 40}, {1, 1, 40}},
	}
	return append(list, walkedPlates(150)...)
}

// walkedPlates returns n plates that a fixed walk comes to, most of them small.
func walkedPlates(n int) []plate {
	next := walk(11)
	var list []plate
	for len(list) < n {
		var p plate
		top := []int{4, 12, 40}[next(3)]
		for range 3 + next(4) {
			p = append(p, cuts.Side{A: next(9) - 4, B: next(9) - 4, C: next(2*top+1) - top/2})
		}
		if isPlate(p) {
			list = append(list, p)
		}
	}
	return list
}

// walk returns a function that gives numbers below its argument.
func walk(state uint32) func(n int) int {
	return func(n int) int {
		state = state*1664525 + 1013904223
		return int(state>>16) % n
	}
}

// isPlate is the term of the chapter; a direction without an end would be one
// of these, as such begin at right angles to a side.
func isPlate(p plate) bool {
	if len(p) < 3 || len(p) > 6 {
		return false
	}
	for _, s := range p {
		if max(s.A, -s.A, s.B, -s.B) > 4 || s.A == 0 && s.B == 0 || s.C > 40 || s.C < -40 {
			return false
		}
	}
	for u := -6; u <= 6; u++ {
		for v := -6; v <= 6; v++ {
			if u == 0 && v == 0 {
				continue
			}
			if !slices.ContainsFunc(p, func(s cuts.Side) bool { return s.A*u+s.B*v > 0 }) {
				return false
			}
		}
	}
	return true
}

// notPlates are slices that are no plates.
func notPlates() map[string]plate {
	return map[string]plate{
		"nil":                    nil,
		"empty":                  {},
		"one side":               {{1, 0, 0}},
		"two sides":              {{1, 0, 0}, {-1, 0, 0}},
		"seven sides":            append(box(0, 0, 1, 1), cuts.Side{A: 1, C: 1}, cuts.Side{A: 1, C: 1}, cuts.Side{A: 1, C: 1}),
		"many sides":             make(plate, 10000),
		"a side of 0s":           append(box(0, 0, 1, 1), cuts.Side{}),
		"0 0 1":                  append(box(0, 0, 1, 1), cuts.Side{C: 1}),
		"A 5":                    append(box(0, 0, 1, 1), cuts.Side{A: 5}),
		"A -5":                   append(box(0, 0, 1, 1), cuts.Side{A: -5}),
		"B 5":                    append(box(0, 0, 1, 1), cuts.Side{B: 5}),
		"B -5":                   append(box(0, 0, 1, 1), cuts.Side{B: -5}),
		"C 41":                   box(0, 0, 1, 41),
		"C -41":                  box(0, 41, 1, 40),
		"greatest ints":          {{math.MaxInt, math.MaxInt, math.MaxInt}, {1, 0, math.MaxInt}, {math.MaxInt, 0, 0}},
		"least ints":             {{math.MinInt, math.MinInt, math.MinInt}, {1, 0, math.MinInt}, {math.MinInt, 0, 0}},
		"C of any size":          {{1, 1, math.MaxInt}, {-1, 0, math.MinInt}, {0, -1, 0}},
		"all on one side":        {{1, 0, 0}, {1, 1, 0}, {1, -1, 0}},
		"half a plane":           {{1, 0, 0}, {1, 0, 1}, {2, 0, 3}},
		"a strip":                {{1, 0, 1}, {-1, 0, 1}, {2, 0, 3}, {-3, 0, 0}},
		"half a strip":           {{1, 0, 1}, {-1, 0, 1}, {0, 1, 1}},
		"half a slanting strip":  {{2, -3, 1}, {-2, 3, 1}, {1, 1, 1}, {-1, 4, 0}},
		"a quarter":              {{-1, 0, 0}, {0, -1, 0}, {-1, -1, 0}},
		"a narrow way":           {{4, -3, 0}, {-3, 2, 0}, {-1, 0, 0}},
		"no point, but no end":   {{1, 0, -1}, {-1, 0, -1}, {0, 1, 0}},
		"a point, but no end":    {{1, 1, 0}, {-1, -1, 0}, {0, 1, 0}, {1, 2, 3}},
		"six sides without end":  {{1, 0, 1}, {1, 1, 1}, {1, 2, 1}, {-1, 2, 1}, {-3, 4, 1}, {-1, 1, 1}},
		"parallel and no point":  {{1, 0, -1}, {-1, 0, -1}, {2, 0, 0}},
		"a right angle of sides": {{1, 0, 0}, {0, 1, 0}, {4, 4, 0}, {1, 3, 0}},
	}
}

// cornersOf returns the corners, by solving all pairs of sides.
func cornersOf(p plate) []cuts.Point {
	var list []cuts.Point
	for _, s := range p {
		for _, t := range p {
			det := s.A*t.B - t.A*s.B
			if det == 0 {
				continue
			}
			x := toFrac(big.NewRat(int64(s.C*t.B-t.C*s.B), int64(det)))
			y := toFrac(big.NewRat(int64(s.A*t.C-t.A*s.C), int64(det)))
			if c := point(x, y); inPlate(p, c) && !slices.Contains(list, c) {
				list = append(list, c)
			}
		}
	}
	slices.SortFunc(list, func(a, b cuts.Point) int {
		if n := rat(a.X).Cmp(rat(b.X)); n != 0 {
			return n
		}
		return rat(a.Y).Cmp(rat(b.Y))
	})
	return list
}

// pointsOf returns the whole points, by trying all of the box of the corners.
func pointsOf(p plate) [][2]int {
	corners := cornersOf(p)
	if len(corners) == 0 {
		return nil
	}
	lowX, lowY, highX, highY := math.MaxInt, math.MaxInt, math.MinInt, math.MinInt
	for _, c := range corners {
		lowX, highX = min(lowX, floor(rat(c.X))), max(highX, floor(rat(c.X)))
		lowY, highY = min(lowY, floor(rat(c.Y))), max(highY, floor(rat(c.Y)))
	}
	var list [][2]int
	for x := lowX; x <= highX; x++ {
		for y := lowY; y <= highY; y++ {
			if !slices.ContainsFunc(p, func(s cuts.Side) bool { return s.A*x+s.B*y > s.C }) {
				list = append(list, [2]int{x, y})
			}
		}
	}
	return list
}

// boundOf returns the greatest a x + b y of the corners, or nil.
func boundOf(corners []cuts.Point, a, b int) *big.Rat {
	var best *big.Rat
	for _, c := range corners {
		if sum := sumAt(a, b, rat(c.X), rat(c.Y)); best == nil || sum.Cmp(best) > 0 {
			best = sum
		}
	}
	return best
}

// roundOf returns the lowest cut of each A and B from -top to top, by what it
// is at most: the greatest sum of a point of the plate, rounded down.
func roundOf(p plate, top int) []cuts.Side {
	corners := cornersOf(p)
	var list []cuts.Side
	for a := -top; a <= top; a++ {
		for b := -top; b <= top; b++ {
			if a != 0 || b != 0 {
				list = append(list, cuts.Side{A: a, B: b, C: floor(boundOf(corners, a, b))})
			}
		}
	}
	return list
}

// grid returns points of the plate of some corners and around it, with Dens
// from 1 to den.
func grid(corners []cuts.Point, den int) []cuts.Point {
	var list []cuts.Point
	c := corners[0]
	for d := 1; d <= den; d++ {
		fromX, fromY := floor(rat(c.X))*d, floor(rat(c.Y))*d
		for i := -2 * d; i <= 4*d; i++ {
			for j := -3 * d; j <= 3*d; j++ {
				x := point(toFrac(big.NewRat(int64(fromX+i), int64(d))), toFrac(big.NewRat(int64(fromY+j), int64(d))))
				list = append(list, x)
			}
		}
	}
	return list
}

// badPlaces are Fracs that are not valid from -100 to 100 with Den up to 100.
func badPlaces() []api.Frac {
	return []api.Frac{
		{}, frac(1, 0), frac(-1, 0), frac(2, 4), frac(0, 2), frac(-3, 3), frac(1, -1), frac(-1, -1), frac(0, -1),
		frac(1, 101), frac(101, 1), frac(-101, 1), frac(201, 2), frac(-201, 2), frac(9901, 99), frac(-10001, 100),
		frac(math.MaxInt, 1), frac(math.MinInt, 1), frac(math.MaxInt, 100), frac(math.MinInt, 99),
		frac(1, math.MaxInt), frac(1, math.MinInt), frac(math.MinInt, math.MinInt), frac(math.MaxInt, math.MaxInt),
	}
}

// eachBadPlate calls f with what is no plate, and a copy of it must stay.
func eachBadPlate(t *testing.T, f func(name string, p plate)) {
	t.Helper()
	for name, p := range notPlates() {
		before := slices.Clone(p)
		f(name, p)
		if !slices.Equal(p, before) {
			t.Errorf("%s: %v became %v", name, before, p)
		}
	}
}
