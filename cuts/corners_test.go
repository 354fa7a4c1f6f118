package cuts_test

import (
	"math"
	"slices"
	"testing"

	"congou/api"
	"congou/cuts"
)

// P2.1
func TestCorners(t *testing.T) {
	zero, one := frac(0, 1), frac(1, 1)
	tests := []struct {
		p    plate
		want []cuts.Point
	}{
		{example(), []cuts.Point{point(zero, zero), point(zero, frac(3, 2)), point(frac(3, 2), zero)}},
		{tooth(), []cuts.Point{point(zero, zero), point(frac(1, 2), frac(2, 1)), point(one, zero)}},
		{box(0, 0, 0, 0), []cuts.Point{point(zero, zero)}},
		{box(1, 0, 0, 0), nil},
		{box(0, 0, 1, 1), []cuts.Point{point(zero, zero), point(zero, one), point(one, zero), point(one, one)}},
		{plate{{2, 0, -1}, {-1, 3, 1}, {-1, -3, 1}}, []cuts.Point{point(frac(-1, 1), zero), point(frac(-1, 2), frac(-1, 6)), point(frac(-1, 2), frac(1, 6))}},
		{plate{{1, 1, 0}, {-1, 1, 0}, {0, -1, 0}}, []cuts.Point{point(zero, zero)}},
	}
	for _, c := range tests {
		if got, e := cuts.Corners(c.p); !slices.Equal(got, c.want) || e != api.OK {
			t.Errorf("Corners(%v) = %v, %v", c.p, got, e)
		}
	}
}

// P2.1 and P2.9: the term itself, and empty just if there is no point.
func TestCornersAll(t *testing.T) {
	empty := 0
	for _, p := range somePlates() {
		got, e := cuts.Corners(p)
		if !slices.Equal(got, cornersOf(p)) || e != api.OK {
			t.Errorf("Corners(%v) = %v, %v", p, got, e)
		}
		if len(got) > 0 {
			continue
		}
		empty++
		if l, e := cuts.Points(p); len(l) != 0 || e != api.OK {
			t.Errorf("Points(%v) = %v, %v", p, l, e)
		}
		for _, x := range grid([]cuts.Point{point(frac(0, 1), frac(0, 1))}, 3) {
			if inPlate(p, x) {
				t.Errorf("%v has no corner, but the point %v", p, x)
			}
		}
	}
	if empty < 10 {
		t.Error("few plates without points:", empty)
	}
}

// P2.1, P2.5 and P2.7: what is no plate.
func TestBadPlates(t *testing.T) {
	eachBadPlate(t, func(name string, p plate) {
		if l, e := cuts.Corners(p); len(l) != 0 || e != api.ErrArg {
			t.Errorf("%s: Corners = %v, %v", name, l, e)
		}
		if l, e := cuts.Points(p); len(l) != 0 || e != api.ErrArg {
			t.Errorf("%s: Points = %v, %v", name, l, e)
		}
		if l, e := cuts.Hull(p); len(l) != 0 || e != api.ErrArg {
			t.Errorf("%s: Hull = %v, %v", name, l, e)
		}
		if l, e := cuts.Turn(p); len(l) != 0 || e != api.ErrArg {
			t.Errorf("%s: Turn = %v, %v", name, l, e)
		}
	})
}

// P2.1: which slices are plates, for all small sides.
func TestPlatesAll(t *testing.T) {
	var sides []cuts.Side
	for a := -4; a <= 4; a++ {
		for b := -4; b <= 4; b++ {
			sides = append(sides, cuts.Side{A: a, B: b, C: 1})
		}
	}
	for _, r := range sides {
		for _, s := range sides {
			for _, u := range []cuts.Side{{-1, 0, 1}, {3, -4, 1}, {2, 2, 1}, {-3, -1, 1}} {
				p := plate{u, r, s}
				want := api.OK
				if !isPlate(p) {
					want = api.ErrArg
				}
				if l, e := cuts.Corners(p); e != want {
					t.Fatalf("Corners(%v) = %v, %v", p, l, e)
				}
			}
		}
	}
}

// P2.2
func TestBound(t *testing.T) {
	tests := []struct {
		p    plate
		a, b int
		want api.Frac
	}{
		{example(), 1, 1, frac(3, 2)},
		{example(), -1, -1, frac(0, 1)},
		{example(), 0, 0, frac(0, 1)},
		{example(), 9, -9, frac(27, 2)},
		{example(), -9, 9, frac(27, 2)},
		{tooth(), 0, 1, frac(2, 1)},
		{tooth(), 1, 1, frac(5, 2)},
		{box(2, 3, 4, 5), -1, -1, frac(-5, 1)},
		{plate{{2, 0, 1}, {-2, 0, -1}, {0, 2, 1}, {0, -2, -1}}, -3, -4, frac(-7, 2)},
		{plate{{4, 0, 3}, {-4, 0, -1}, {0, 1, 2}, {0, -1, 2}}, -1, 0, frac(-1, 4)},
		{box(-40, -40, 40, 40), 9, 9, frac(720, 1)},
	}
	for _, c := range tests {
		if got, e := cuts.Bound(c.p, c.a, c.b); got != c.want || e != api.OK {
			t.Errorf("Bound(%v, %v, %v) = %v, %v", c.p, c.a, c.b, got, e)
		}
	}
	// Plates without whole points, and without points.
	half := plate{{2, 0, 1}, {-2, 0, -1}, {0, 1, 0}, {0, -1, 0}}
	if got, e := cuts.Bound(half, 1, 0); got != frac(1, 2) || e != api.OK {
		t.Error(got, e)
	}
	for _, p := range []plate{box(1, 0, 0, 0), {{1, 0, -1}, {-1, 1, 0}, {-1, -1, 0}}} {
		if got, e := cuts.Bound(p, 1, 0); got != (api.Frac{}) || e != api.ErrNone {
			t.Errorf("Bound(%v) = %v, %v", p, got, e)
		}
	}
}

// P2.2, P2.8 and P2.9: Bound is reached at a corner, and Best is at most it.
func TestBoundAll(t *testing.T) {
	for _, p := range somePlates() {
		corners := cornersOf(p)
		for _, aim := range aims() {
			got, e := cuts.Bound(p, aim[0], aim[1])
			want := boundOf(corners, aim[0], aim[1])
			if want == nil {
				if got != (api.Frac{}) || e != api.ErrNone {
					t.Errorf("Bound(%v, %v) = %v, %v", p, aim, got, e)
				}
				continue
			}
			if got != toFrac(want) || e != api.OK {
				t.Errorf("Bound(%v, %v) = %v, %v", p, aim, got, e)
			}
			if best, e := cuts.Best(p, aim[0], aim[1]); e == api.OK && best > floor(want) {
				t.Errorf("Best(%v, %v) = %v above %v", p, aim, best, got)
			}
		}
	}
}

func aims() [][2]int {
	return [][2]int{{0, 0}, {1, 0}, {0, 1}, {-1, 0}, {0, -1}, {1, 1}, {-1, 2}, {3, -7}, {9, 9}, {-9, 8}, {-5, -9}, {4, 3}}
}

// P2.2: ErrArg is before ErrNone.
func TestAimErrors(t *testing.T) {
	none := box(1, 0, 0, 0)
	for _, p := range []plate{example(), none} {
		for _, bad := range []int{10, -10, math.MaxInt, math.MinInt} {
			for _, aim := range [][2]int{{bad, 0}, {0, bad}, {bad, bad}} {
				if got, e := cuts.Bound(p, aim[0], aim[1]); got != (api.Frac{}) || e != api.ErrArg {
					t.Errorf("Bound(%v, %v) = %v, %v", p, aim, got, e)
				}
				if got, e := cuts.Best(p, aim[0], aim[1]); got != 0 || e != api.ErrArg {
					t.Errorf("Best(%v, %v) = %v, %v", p, aim, got, e)
				}
			}
		}
	}
	eachBadPlate(t, func(name string, p plate) {
		if got, e := cuts.Bound(p, 1, 1); got != (api.Frac{}) || e != api.ErrArg {
			t.Errorf("%s: Bound = %v, %v", name, got, e)
		}
		if got, e := cuts.Best(p, 1, 1); got != 0 || e != api.ErrArg {
			t.Errorf("%s: Best = %v, %v", name, got, e)
		}
	})
}
