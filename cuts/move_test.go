package cuts_test

import (
	"math"
	"math/big"
	"slices"
	"testing"

	"congou/api"
	"congou/cuts"
)

// P2.6
func TestApart(t *testing.T) {
	tests := []struct {
		p    plate
		x    [2]int
		want cuts.Side
	}{
		{example(), [2]int{1, 1}, cuts.Side{A: 2, B: 2, C: 3}},
		{example(), [2]int{-1, 0}, cuts.Side{A: -1, B: 0, C: 0}},
		{example(), [2]int{0, -1}, cuts.Side{A: 0, B: -1, C: 0}},
		{example(), [2]int{-1, -1}, cuts.Side{A: -1, B: 0, C: 0}},
		{example(), [2]int{-1, 100}, cuts.Side{A: 2, B: 2, C: 3}},
		{example(), [2]int{100, -100}, cuts.Side{A: 0, B: -1, C: 0}},
		{box(1, 0, 0, 0), [2]int{0, 0}, cuts.Side{A: -1, B: 0, C: -1}},
		{box(1, 0, 0, 0), [2]int{1, 0}, cuts.Side{A: 1, B: 0, C: 0}},
	}
	for _, c := range tests {
		if got, e := cuts.Apart(c.p, c.x); got != c.want || e != api.OK {
			t.Errorf("Apart(%v, %v) = %v, %v", c.p, c.x, got, e)
		}
	}
}

// P2.6: ErrNone just for the points of the plate.
func TestApartAll(t *testing.T) {
	for _, p := range somePlates() {
		for x := -6; x <= 6; x++ {
			for y := -6; y <= 6; y++ {
				i := slices.IndexFunc(p, func(s cuts.Side) bool { return s.A*x+s.B*y > s.C })
				got, e := cuts.Apart(p, [2]int{x, y})
				if i < 0 && (got != (cuts.Side{}) || e != api.ErrNone) || i >= 0 && (got != p[i] || e != api.OK) {
					t.Fatalf("Apart(%v, %v, %v) = %v, %v", p, x, y, got, e)
				}
			}
		}
	}
}

// P2.6
func TestApartErrors(t *testing.T) {
	for _, bad := range []int{101, -101, math.MaxInt, math.MinInt} {
		for _, x := range [][2]int{{bad, 0}, {0, bad}, {bad, bad}} {
			if got, e := cuts.Apart(example(), x); got != (cuts.Side{}) || e != api.ErrArg {
				t.Errorf("Apart(%v) = %v, %v", x, got, e)
			}
		}
	}
	eachBadPlate(t, func(name string, p plate) {
		if got, e := cuts.Apart(p, [2]int{5, 5}); got != (cuts.Side{}) || e != api.ErrArg {
			t.Errorf("%s: Apart = %v, %v", name, got, e)
		}
	})
}

// P2.7
func TestMove(t *testing.T) {
	tests := []struct {
		p    plate
		x, y int
		want plate
	}{
		{example(), 1, 2, plate{{2, 2, 9}, {-1, 0, -1}, {0, -1, -2}}},
		{example(), -5, 5, plate{{2, 2, 3}, {-1, 0, 5}, {0, -1, -5}}},
		{example(), 0, 0, example()},
		{box(-40, 35, 35, 35), 5, 5, box(-35, 40, 40, 40)},
		{box(-40, -35, -35, -35), 5, -5, box(-35, -40, -30, -40)},
		{box(1, 0, 0, 0), 1, 0, box(2, 0, 1, 0)},
	}
	for _, c := range tests {
		if got, e := cuts.Move(c.p, c.x, c.y); !slices.Equal(got, c.want) || e != api.OK {
			t.Errorf("Move(%v, %v, %v) = %v, %v", c.p, c.x, c.y, got, e)
		}
	}
}

// P2.7: ErrArg is before ErrNone.
func TestMoveErrors(t *testing.T) {
	tests := []struct {
		p    plate
		x, y int
		want api.Errno
	}{
		{box(0, 0, 40, 0), 1, 0, api.ErrNone},
		{box(0, 0, 40, 40), 0, 1, api.ErrNone},
		{box(36, 0, 40, 40), 0, -5, api.OK},
		{box(36, 0, 40, 40), 5, -5, api.ErrNone},
		{box(-36, 0, 0, 0), -5, 0, api.ErrNone},
		{plate{{4, 4, 1}, {-1, 0, 0}, {0, -1, 0}}, 5, 5, api.ErrNone},    // 41
		{plate{{4, 4, 0}, {-1, 0, 0}, {0, -1, 0}}, 5, 5, api.OK},         // 40
		{plate{{4, 4, 0}, {-1, 0, 0}, {0, -1, 0}}, -5, -5, api.OK},       // -40
		{plate{{4, 4, -1}, {-1, 0, 0}, {0, -1, 0}}, -5, -5, api.ErrNone}, // -41
		{box(0, 0, 40, 40), 6, 0, api.ErrArg},
		{example(), 6, 0, api.ErrArg}, {example(), 0, 6, api.ErrArg}, {example(), -6, 0, api.ErrArg}, {example(), 0, -6, api.ErrArg},
		{example(), math.MaxInt, 0, api.ErrArg}, {example(), 0, math.MinInt, api.ErrArg}, {example(), math.MinInt, math.MaxInt, api.ErrArg},
	}
	for _, c := range tests {
		got, e := cuts.Move(c.p, c.x, c.y)
		if e != c.want || e != api.OK && len(got) != 0 {
			t.Errorf("Move(%v, %v, %v) = %v, %v", c.p, c.x, c.y, got, e)
		}
	}
	eachBadPlate(t, func(name string, p plate) {
		if got, e := cuts.Move(p, 1, 1); len(got) != 0 || e != api.ErrArg {
			t.Errorf("%s: Move = %v, %v", name, got, e)
		}
	})
}

// P2.7
func TestTurn(t *testing.T) {
	if got, e := cuts.Turn(example()); !slices.Equal(got, plate{{-2, 2, 3}, {0, -1, 0}, {1, 0, 0}}) || e != api.OK {
		t.Error(got, e)
	}
	for _, p := range somePlates() {
		turned := p
		for range 4 {
			var e api.Errno
			if turned, e = cuts.Turn(turned); e != api.OK {
				t.Fatal(p, e)
			}
		}
		if !slices.Equal(turned, p) {
			t.Errorf("turned four times: %v, %v", p, turned)
		}
	}
}

// P2.11: Move moves corners, whole points, hull and round.
func TestMoveAll(t *testing.T) {
	moved := 0
	for i, p := range somePlates() {
		x, y := i%11-5, i*7%11-5
		q, e := cuts.Move(p, x, y)
		if e != api.OK {
			continue
		}
		moved++
		shift := func(a [2]int) [2]int { return [2]int{a[0] + x, a[1] + y} }
		change := func(a cuts.Point) cuts.Point {
			return point(toFrac(new(big.Rat).Add(rat(a.X), whole(x))), toFrac(new(big.Rat).Add(rat(a.Y), whole(y))))
		}
		testChange(t, p, q, shift, change)
	}
	if moved < 80 {
		t.Error(moved)
	}
}

// P2.11: Turn turns corners, whole points, hull and round.
func TestTurnAll(t *testing.T) {
	for _, p := range somePlates() {
		q, e := cuts.Turn(p)
		if e != api.OK {
			t.Errorf("Turn(%v) = %v", p, e)
		}
		shift := func(a [2]int) [2]int { return [2]int{-a[1], a[0]} }
		change := func(a cuts.Point) cuts.Point { return point(frac(-a.Y.Num, a.Y.Den), a.X) }
		testChange(t, p, q, shift, change)
	}
}

// testChange tests that q has what p has, changed.
func testChange(t *testing.T, p, q plate, shift func([2]int) [2]int, change func(cuts.Point) cuts.Point) {
	t.Helper()
	cornersP, _ := cuts.Corners(p)
	cornersQ, _ := cuts.Corners(q)
	pointsP, _ := cuts.Points(p)
	pointsQ, _ := cuts.Points(q)
	hullP, _ := cuts.Hull(p)
	hullQ, _ := cuts.Hull(q)
	if !sameSet(cornersP, cornersQ, change) || !sameSet(pointsP, pointsQ, shift) || !sameSet(hullP, hullQ, shift) {
		t.Errorf("%v and %v: corners %v, %v; hull %v, %v", p, q, cornersP, cornersQ, hullP, hullQ)
	}
	if len(cornersP) == 0 {
		return
	}
	for _, x := range slices.Concat(grid(cornersP, 2), cornersP) {
		inP, e := cuts.InRound(p, x)
		inQ, f := cuts.InRound(q, change(x))
		if e == api.OK && f == api.OK && inP != inQ {
			t.Errorf("%v and %v: round at %v: %v, %v", p, q, x, inP, inQ)
		}
	}
}

// sameSet reports whether b has all of a, changed, and no more.
func sameSet[T comparable](a, b []T, change func(T) T) bool {
	set := map[T]bool{}
	for _, x := range b {
		set[x] = true
	}
	for _, x := range a {
		if !set[change(x)] {
			return false
		}
	}
	return len(a) == len(b) && len(set) == len(b)
}

// Rule 4: no argument is changed, and no result shares memory with one.
func TestArgumentsStay(t *testing.T) {
	p := plate{{2, 2, 3}, {-1, 0, 0}, {0, -1, 0}}
	m := []api.Frac{frac(1, 2), frac(0, 1), frac(0, 1)}
	cuts.Corners(p)
	cuts.Points(p)
	cuts.Best(p, 1, 1)
	cuts.Bound(p, 1, 1)
	cuts.Cut(p, m)
	cuts.CheckCut(p, m, cuts.Side{A: 1, B: 1, C: 1})
	cuts.InRound(p, point(frac(1, 2), frac(1, 2)))
	cuts.Hull(p)
	cuts.Apart(p, [2]int{1, 1})
	for _, f := range []func() (plate, api.Errno){
		func() (plate, api.Errno) { return cuts.Move(p, 0, 0) },
		func() (plate, api.Errno) { return cuts.Turn(p) },
	} {
		q, _ := f()
		q[0] = cuts.Side{}
	}
	if !slices.Equal(p, example()) || !slices.Equal(m, multipliers(frac(1, 2), frac(0, 1), frac(0, 1))) {
		t.Error(p, m)
	}
}
