package cuts_test

import (
	"math"
	"math/big"
	"slices"
	"testing"

	"congou/api"
	"congou/cuts"
)

func multipliers(list ...api.Frac) []api.Frac { return list }

// P2.3
func TestCut(t *testing.T) {
	zero, one, half := frac(0, 1), frac(1, 1), frac(1, 2)
	primes := plate{{4, 4, 40}, {4, -4, 40}, {-4, 4, 40}, {-4, -4, 40}, {4, 4, 40}, {-4, -4, 40}}
	tests := []struct {
		p    plate
		m    []api.Frac
		want cuts.Side
	}{
		{example(), multipliers(half, zero, zero), cuts.Side{A: 1, B: 1, C: 1}},
		{example(), multipliers(one, zero, zero), cuts.Side{A: 2, B: 2, C: 3}},
		{example(), multipliers(zero, one, frac(3, 1)), cuts.Side{A: -1, B: -3, C: 0}},
		{example(), multipliers(half, half, half), cuts.Side{}},       // 1/2 1/2
		{example(), multipliers(frac(1, 4), half, half), cuts.Side{}}, // 0 0
		{example(), multipliers(frac(1, 4), frac(3, 2), half), cuts.Side{A: -1, B: 0, C: 0}},
		{example(), multipliers(zero, zero, zero), cuts.Side{}},
		{example(), multipliers(half, half, one), cuts.Side{}}, // 1/2 0
		{example(), multipliers(half, one, half), cuts.Side{}}, // 0 1/2
		{example(), multipliers(half, zero, one), cuts.Side{A: 1, B: 0, C: 1}},
		{tooth(), multipliers(frac(3, 8), frac(5, 8), zero), cuts.Side{A: 1, B: 1, C: 2}},
		{box(1, 2, 3, 4), multipliers(one, one, zero, zero), cuts.Side{A: -1, B: -1, C: -3}},
		{plate{{-2, 0, -1}, {0, -2, -1}, {1, 1, 5}}, multipliers(half, zero, zero), cuts.Side{A: -1, B: 0, C: -1}}, // -1/2 rounded down
		{plate{{-4, 0, -40}, {0, -4, 40}, {1, 1, 40}}, multipliers(frac(100, 1), frac(100, 1), zero), cuts.Side{A: -400, B: -400, C: 0}},
		{primes, multipliers(frac(9999, 100), frac(9800, 99), frac(9408, 97), frac(8100, 91), frac(7920, 89), frac(6880, 83)), cuts.Side{}},
		{primes, slices.Repeat(multipliers(frac(1, 97)), 6), cuts.Side{}},
		{primes, multipliers(frac(100, 1), zero, zero, zero, frac(100, 1), zero), cuts.Side{A: 800, B: 800, C: 8000}},
		{primes, multipliers(frac(99, 100), frac(98, 99), frac(98, 99), frac(1, 97), frac(1, 100), frac(1, 97)), cuts.Side{}},
		{primes, multipliers(frac(99, 100), frac(1, 97), frac(1, 97), zero, frac(1, 100), zero), cuts.Side{A: 4, B: 4, C: 40}},
		{primes, multipliers(frac(99, 100), frac(1, 97), frac(1, 97), frac(1, 89), frac(1, 100), frac(88, 89)), cuts.Side{}}, // 0 0
	}
	for _, c := range tests {
		want := api.OK
		if c.want == (cuts.Side{}) {
			want = api.ErrNone
		}
		if got, e := cuts.Cut(c.p, c.m); got != c.want || e != want {
			t.Errorf("Cut(%v, %v) = %v, %v", c.p, c.m, got, e)
		}
	}
}

// cutOf is the term of the chapter, word by word.
func cutOf(p plate, m []api.Frac) (cuts.Side, bool) {
	a, b, c := new(big.Rat), new(big.Rat), new(big.Rat)
	for i, s := range p {
		f := rat(m[i])
		a.Add(a, new(big.Rat).Mul(f, whole(s.A)))
		b.Add(b, new(big.Rat).Mul(f, whole(s.B)))
		c.Add(c, new(big.Rat).Mul(f, whole(s.C)))
	}
	if !a.IsInt() || !b.IsInt() || a.Sign() == 0 && b.Sign() == 0 {
		return cuts.Side{}, false
	}
	return cuts.Side{A: floor(a), B: floor(b), C: floor(c)}, true
}

// walkedMultipliers returns multipliers for p that make a cut often: for two
// sides such as make whole numbers, for the other ones often 0.
func walkedMultipliers(p plate, next func(int) int) []api.Frac {
	m := slices.Repeat(multipliers(frac(0, 1)), len(p))
	i, j := next(len(p)), next(len(p))
	den := max(1, p[i].A*p[j].B-p[i].B*p[j].A, p[i].B*p[j].A-p[i].A*p[j].B)
	if next(3) == 0 {
		den = 1 + next(100)
	}
	m[i] = toFrac(big.NewRat(int64(next(2*den+1)), int64(den)))
	m[j] = toFrac(big.NewRat(int64(next(100*den+1)), int64(den)))
	m[next(len(p))] = frac(next(101), 1)
	return m
}

// P2.3 and P2.8: a cut is the sum, and all whole points keep it.
func TestCutAll(t *testing.T) {
	next := walk(5)
	made, none := 0, 0
	for _, p := range somePlates() {
		points := pointsOf(p)
		for range 60 {
			m := walkedMultipliers(p, next)
			want, ok := cutOf(p, m)
			got, e := cuts.Cut(p, m)
			if got != want || ok != (e == api.OK) || !ok && e != api.ErrNone {
				t.Fatalf("Cut(%v, %v) = %v, %v", p, m, got, e)
			}
			testCheckCut(t, p, m, want, ok)
			if !ok {
				none++
				continue
			}
			made++
			for _, x := range points {
				if want.A*x[0]+want.B*x[1] > want.C {
					t.Fatalf("%v does not keep Cut(%v, %v) = %v", x, p, m, got)
				}
			}
		}
	}
	if made < 1000 || none < 1000 {
		t.Error(made, none)
	}
}

// testCheckCut tests CheckCut with sides around the cut.
func testCheckCut(t *testing.T, p plate, m []api.Frac, cut cuts.Side, ok bool) {
	t.Helper()
	for a := -1; a <= 1; a++ {
		for b := -1; b <= 1; b++ {
			for c := -1; c <= 1; c++ {
				s := cuts.Side{A: cut.A + a, B: cut.B + b, C: cut.C + c}
				want := ok && a == 0 && b == 0 && c >= 0
				if got, e := cuts.CheckCut(p, m, s); got != want || e != api.OK {
					t.Fatalf("CheckCut(%v, %v, %v) = %v, %v", p, m, s, got, e)
				}
			}
		}
	}
}

// P2.3
func TestCheckCut(t *testing.T) {
	half, zero := frac(1, 2), frac(0, 1)
	tests := []struct {
		m    []api.Frac
		s    cuts.Side
		want bool
	}{
		{multipliers(half, zero, zero), cuts.Side{A: 1, B: 1, C: 1}, true},
		{multipliers(half, zero, zero), cuts.Side{A: 1, B: 1, C: 2}, true},
		{multipliers(half, zero, zero), cuts.Side{A: 1, B: 1, C: math.MaxInt}, true},
		{multipliers(half, zero, zero), cuts.Side{A: 1, B: 1, C: 0}, false},
		{multipliers(half, zero, zero), cuts.Side{A: 1, B: 1, C: math.MinInt}, false},
		{multipliers(half, zero, zero), cuts.Side{A: 2, B: 2, C: 3}, false},
		{multipliers(half, zero, zero), cuts.Side{A: math.MaxInt, B: math.MinInt, C: 3}, false},
		{multipliers(zero, zero, zero), cuts.Side{}, false},
		{multipliers(zero, zero, zero), cuts.Side{C: 1}, false},
		{multipliers(frac(1, 4), half, half), cuts.Side{}, false},
		{multipliers(frac(1, 4), half, half), cuts.Side{C: 7}, false},
		{multipliers(half, half, half), cuts.Side{A: 0, B: 0, C: 1}, false},
	}
	for _, c := range tests {
		if got, e := cuts.CheckCut(example(), c.m, c.s); got != c.want || e != api.OK {
			t.Errorf("CheckCut(%v, %v) = %v, %v", c.m, c.s, got, e)
		}
	}
}

// P2.3: ErrArg is before ErrNone.
func TestCutErrors(t *testing.T) {
	zero, one := frac(0, 1), frac(1, 1)
	bad := [][]api.Frac{
		nil, {}, {one}, {one, one}, {one, one, one, one}, make([]api.Frac, 3), make([]api.Frac, 10000),
		{frac(-1, 2), one, one}, {one, frac(-1, 1), one}, {zero, zero, frac(-1, 100)},
	}
	for _, f := range badPlaces() {
		bad = append(bad, multipliers(f, one, one), multipliers(one, f, zero), multipliers(zero, zero, f))
	}
	for _, m := range bad {
		if got, e := cuts.Cut(example(), m); got != (cuts.Side{}) || e != api.ErrArg {
			t.Errorf("Cut(%v) = %v, %v", m, got, e)
		}
		if got, e := cuts.CheckCut(example(), m, cuts.Side{A: 2, B: 2, C: 3}); got || e != api.ErrArg {
			t.Errorf("CheckCut(%v) = %v, %v", m, got, e)
		}
	}
	eachBadPlate(t, func(name string, p plate) {
		m := slices.Repeat(multipliers(one), len(p))
		if got, e := cuts.Cut(p, m); got != (cuts.Side{}) || e != api.ErrArg {
			t.Errorf("%s: Cut = %v, %v", name, got, e)
		}
		if got, e := cuts.CheckCut(p, m, cuts.Side{A: 1}); got || e != api.ErrArg {
			t.Errorf("%s: CheckCut = %v, %v", name, got, e)
		}
	})
}

// P2.4
func TestInRound(t *testing.T) {
	half := frac(1, 2)
	tests := []struct {
		p    plate
		x    cuts.Point
		want bool
	}{
		{example(), point(half, half), true},
		{example(), point(frac(0, 1), frac(1, 1)), true},
		{example(), point(frac(0, 1), frac(0, 1)), true},
		{example(), point(frac(3, 4), frac(3, 4)), false},
		{example(), point(frac(51, 100), half), false},
		{example(), point(frac(0, 1), frac(3, 2)), false},
		{example(), point(frac(1, 1), frac(1, 1)), false},
		{example(), point(frac(-1, 100), frac(0, 1)), false},
		{tooth(), point(half, frac(3, 2)), true},
		{tooth(), point(half, frac(1, 1)), true},
		{tooth(), point(half, frac(151, 100)), false},
		{tooth(), point(half, frac(2, 1)), false},
		{tooth(), point(frac(1, 4), frac(3, 4)), true}, // on -3 1 0, of 7/8 1/8 0
		{tooth(), point(frac(1, 4), frac(19, 25)), false},
		{tooth(), point(frac(1, 4), frac(1, 1)), false},
		{box(-40, -40, 40, 40), point(frac(3999, 100), frac(-40, 1)), true},
		{box(-40, -40, 40, 40), point(frac(100, 1), frac(-100, 1)), false},
		{box(1, 0, 0, 0), point(half, frac(0, 1)), false},
		{plate{{2, 0, 1}, {-2, 0, -1}, {0, 2, 1}, {0, -2, -1}}, point(half, half), false},
		{plate{{2, 0, 1}, {-2, 0, 1}, {0, 2, 1}, {0, -2, 1}}, point(frac(0, 1), frac(0, 1)), true},
		{plate{{2, 0, 1}, {-2, 0, 1}, {0, 2, 1}, {0, -2, 1}}, point(frac(1, 100), frac(0, 1)), false},
	}
	for _, c := range tests {
		if got, e := cuts.InRound(c.p, c.x); got != c.want || e != api.OK {
			t.Errorf("InRound(%v, %v) = %v, %v", c.p, c.x, got, e)
		}
	}
}

// P2.4 and P2.8: the lowest cuts of all small A and B decide, and points of the
// round are points of the plate.
func TestInRoundAll(t *testing.T) {
	within, cutOff := 0, 0
	for _, p := range somePlates() {
		corners := cornersOf(p)
		if len(corners) == 0 {
			testEmptyRound(t, p)
			continue
		}
		round := roundOf(p, 12)
		for _, x := range slices.Concat(grid(corners, 4), corners) {
			want := inRound(round, x)
			if got, e := cuts.InRound(p, x); isFar(x) == (e == api.OK) || e == api.OK && got != want {
				t.Fatalf("InRound(%v, %v) = %v, %v", p, x, got, e)
			}
			switch {
			case want && !inPlate(p, x):
				t.Fatalf("%v is in the round of %v, but not in it", x, p)
			case want:
				within++
			case inPlate(p, x):
				cutOff++
			}
		}
	}
	if within < 3000 || cutOff < 3000 {
		t.Error(within, cutOff)
	}
}

// isFar reports whether InRound is not to be asked for x.
func isFar(x cuts.Point) bool {
	limit := whole(100)
	return new(big.Rat).Abs(rat(x.X)).Cmp(limit) > 0 || new(big.Rat).Abs(rat(x.Y)).Cmp(limit) > 0
}

func inRound(round []cuts.Side, x cuts.Point) bool {
	den := x.X.Den * x.Y.Den
	for _, s := range round {
		if s.A*x.X.Num*x.Y.Den+s.B*x.Y.Num*x.X.Den > s.C*den {
			return false
		}
	}
	return true
}

func testEmptyRound(t *testing.T, p plate) {
	t.Helper()
	for _, x := range grid([]cuts.Point{point(frac(0, 1), frac(0, 1))}, 2) {
		if got, e := cuts.InRound(p, x); got || e != api.OK {
			t.Errorf("InRound(%v, %v) = %v, %v", p, x, got, e)
		}
	}
}

// P2.4: what is in the round keeps the cuts of any multipliers.
func TestRoundKeepsCuts(t *testing.T) {
	next := walk(3)
	for _, p := range walkedPlates(40) {
		corners := cornersOf(p)
		if len(corners) == 0 {
			continue
		}
		var round []cuts.Point
		for _, x := range slices.Concat(grid(corners, 5), corners) {
			if ok, _ := cuts.InRound(p, x); ok {
				round = append(round, x)
			}
		}
		for range 100 {
			m := walkedMultipliers(p, next)
			cut, e := cuts.Cut(p, m)
			if e != api.OK {
				continue
			}
			for _, x := range round {
				if !keeps(cut, x) {
					t.Fatalf("%v is in the round of %v, but does not keep Cut(%v) = %v", x, p, m, cut)
				}
			}
		}
	}
}

// P2.8: all whole points are in the round.
func TestWholePointsInRound(t *testing.T) {
	for _, p := range somePlates() {
		for _, x := range pointsOf(p) {
			if isFar(wholePoint(x)) {
				continue
			}
			if ok, e := cuts.InRound(p, wholePoint(x)); !ok || e != api.OK {
				t.Fatalf("InRound(%v, %v) = %v, %v", p, x, ok, e)
			}
		}
	}
}

// P2.12: if all corners are whole, the round is the plate.
func TestSharp(t *testing.T) {
	list := []plate{
		box(-2, -1, 3, 1), box(0, 0, 0, 0),
		{{1, 1, 2}, {-1, 0, 0}, {0, -1, 0}},
		{{2, 1, 4}, {-1, 0, 0}, {0, -1, 0}},
		{{2, 2, 6}, {-3, 0, 0}, {0, -4, 0}},
		{{-1, -3, 0}, {4, -1, 13}, {-3, 4, 13}},
		{{1, 0, 3}, {1, 1, 4}, {0, 1, 3}, {-1, 0, 3}, {-1, -1, 4}, {0, -1, 3}},
	}
	for _, p := range append(list, walkedPlates(400)...) {
		corners := cornersOf(p)
		if len(corners) == 0 || slices.ContainsFunc(corners, func(c cuts.Point) bool { return c.X.Den != 1 || c.Y.Den != 1 || isFar(c) }) {
			continue
		}
		for _, x := range slices.Concat(grid(corners, 4), corners) {
			if got, e := cuts.InRound(p, x); e == api.OK && got != inPlate(p, x) {
				t.Fatalf("InRound(%v, %v) = %v", p, x, got)
			}
		}
	}
}

// P2.4
func TestInRoundErrors(t *testing.T) {
	one := frac(1, 1)
	for _, f := range badPlaces() {
		for _, x := range []cuts.Point{point(f, one), point(one, f), point(f, f)} {
			if got, e := cuts.InRound(example(), x); got || e != api.ErrArg {
				t.Errorf("InRound(%v) = %v, %v", x, got, e)
			}
		}
	}
	for _, f := range []api.Frac{frac(100, 1), frac(-100, 1), frac(9999, 100), frac(-9999, 100), frac(1, 100), frac(0, 1)} {
		for _, x := range []cuts.Point{point(f, one), point(one, f)} {
			if _, e := cuts.InRound(example(), x); e != api.OK {
				t.Errorf("InRound(%v): %v", x, e)
			}
		}
	}
	eachBadPlate(t, func(name string, p plate) {
		if got, e := cuts.InRound(p, point(frac(0, 1), frac(0, 1))); got || e != api.ErrArg {
			t.Errorf("%s: InRound = %v, %v", name, got, e)
		}
	})
}
