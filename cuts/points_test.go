package cuts_test

import (
	"slices"
	"testing"

	"congou/api"
	"congou/cuts"
)

// P2.1
func TestPoints(t *testing.T) {
	tests := []struct {
		p    plate
		want [][2]int
	}{
		{example(), [][2]int{{0, 0}, {0, 1}, {1, 0}}},
		{tooth(), [][2]int{{0, 0}, {1, 0}}},
		{box(0, 0, 0, 0), [][2]int{{0, 0}}},
		{box(-1, -2, 0, -1), [][2]int{{-1, -2}, {-1, -1}, {0, -2}, {0, -1}}},
		{plate{{1, 1, 1}, {-1, -1, -1}, {1, 0, 2}, {-1, 0, 1}}, [][2]int{{-1, 2}, {0, 1}, {1, 0}, {2, -1}}},
		{plate{{0, 2, -1}, {-1, -3, 5}, {1, -3, 5}}, [][2]int{{-2, -1}, {-1, -1}, {0, -1}, {1, -1}, {2, -1}}},
		{box(1, 0, 0, 0), nil},
		{plate{{4, 0, 3}, {-4, 0, -1}, {0, 1, 2}, {0, -1, 2}}, nil},
	}
	for _, c := range tests {
		if got, e := cuts.Points(c.p); !slices.Equal(got, c.want) || e != api.OK {
			t.Errorf("Points(%v) = %v, %v", c.p, got, e)
		}
	}
	if l, e := cuts.Points(box(-40, -40, 40, 40)); len(l) != 81*81 || e != api.OK {
		t.Error(len(l), e)
	}
}

// P2.1: all of them, also as far off as a plate can be.
func TestPointsAll(t *testing.T) {
	far := 0
	for _, p := range append(somePlates(), plate{{4, 1, 40}, {-4, -1, -40}, {3, 1, -40}, {-3, -1, 40}}, plate{{1, -4, 40}, {-1, 3, 40}, {1, -3, 40}, {-1, 4, 40}}) {
		got, e := cuts.Points(p)
		if !slices.Equal(got, pointsOf(p)) || e != api.OK {
			t.Errorf("Points(%v) = %v, %v", p, got, e)
		}
		for _, x := range got {
			far = max(far, x[0], -x[0], x[1], -x[1])
		}
	}
	if far < 280 {
		t.Error("no point beyond", far)
	}
}

// P2.2
func TestBest(t *testing.T) {
	tests := []struct {
		p          plate
		a, b, want int
	}{
		{example(), 1, 1, 1}, {example(), -1, -1, 0}, {example(), 0, 0, 0}, {example(), 9, -9, 9}, {example(), -9, 9, 9},
		{tooth(), 0, 1, 0}, {tooth(), 1, 1, 1},
		{box(2, 3, 4, 5), -1, -1, -5}, {box(2, 3, 4, 5), -9, 9, 27},
		{box(-40, -40, 40, 40), 9, 9, 720},
	}
	for _, c := range tests {
		if got, e := cuts.Best(c.p, c.a, c.b); got != c.want || e != api.OK {
			t.Errorf("Best(%v, %v, %v) = %v, %v", c.p, c.a, c.b, got, e)
		}
	}
	// A plate without points, and one with points, but no whole ones.
	for _, p := range []plate{box(1, 0, 0, 0), {{4, 0, 3}, {-4, 0, -1}, {0, 1, 2}, {0, -1, 2}}} {
		if got, e := cuts.Best(p, 1, 0); got != 0 || e != api.ErrNone {
			t.Errorf("Best(%v) = %v, %v", p, got, e)
		}
	}
}

// P2.2 and P2.10: Best is the greatest of all whole points, and is reached at
// a corner of Hull.
func TestBestAll(t *testing.T) {
	for _, p := range somePlates() {
		points := pointsOf(p)
		hull, _ := cuts.Hull(p)
		for _, aim := range aims() {
			sum := func(a, b [2]int) int { return aim[0]*(a[0]-b[0]) + aim[1]*(a[1]-b[1]) }
			got, e := cuts.Best(p, aim[0], aim[1])
			if len(points) == 0 {
				if got != 0 || e != api.ErrNone {
					t.Errorf("Best(%v, %v) = %v, %v", p, aim, got, e)
				}
				continue
			}
			want := sum(slices.MaxFunc(points, sum), [2]int{})
			if got != want || e != api.OK {
				t.Errorf("Best(%v, %v) = %v, %v", p, aim, got, e)
			}
			if sum(slices.MaxFunc(hull, sum), [2]int{}) != want {
				t.Errorf("Best(%v, %v) = %v is not reached at %v", p, aim, got, hull)
			}
		}
	}
}

// P2.5
func TestHull(t *testing.T) {
	tests := []struct {
		p    plate
		want [][2]int
	}{
		{example(), [][2]int{{0, 0}, {1, 0}, {0, 1}}},
		{tooth(), [][2]int{{0, 0}, {1, 0}}},
		{box(0, 0, 0, 0), [][2]int{{0, 0}}},
		{box(-2, -1, 3, 1), [][2]int{{-2, -1}, {3, -1}, {3, 1}, {-2, 1}}},
		{box(1, 1, 5, 1), [][2]int{{1, 1}, {5, 1}}},
		{box(2, -3, 2, 3), [][2]int{{2, -3}, {2, 3}}},
		{plate{{1, 1, 1}, {-1, -1, -1}, {1, 0, 2}, {-1, 0, 1}}, [][2]int{{-1, 2}, {2, -1}}},
		{plate{{1, 1, 1}, {1, -1, 1}, {-1, 1, 1}, {-1, -1, 1}}, [][2]int{{-1, 0}, {0, -1}, {1, 0}, {0, 1}}},
		{plate{{1, 0, 3}, {1, 1, 4}, {0, 1, 3}, {-1, 0, 3}, {-1, -1, 4}, {0, -1, 3}}, [][2]int{{-3, -1}, {-1, -3}, {3, -3}, {3, 1}, {1, 3}, {-3, 3}}},
	}
	for _, c := range tests {
		if got, e := cuts.Hull(c.p); !slices.Equal(got, c.want) || e != api.OK {
			t.Errorf("Hull(%v) = %v, %v", c.p, got, e)
		}
	}
	for _, p := range []plate{box(1, 0, 0, 0), {{4, 0, 3}, {-4, 0, -1}, {0, 1, 2}, {0, -1, 2}}} {
		if got, e := cuts.Hull(p); len(got) != 0 || e != api.ErrNone {
			t.Errorf("Hull(%v) = %v, %v", p, got, e)
		}
	}
}

// turn is above 0 if one turns to the left at b on the way from a to c.
func turn(a, b, c [2]int) int {
	return (b[0]-a[0])*(c[1]-a[1]) - (b[1]-a[1])*(c[0]-a[0])
}

// P2.5 and P2.10: the corners are whole points, they begin with the least one
// and turn to the left, once around, and all whole points are within them.
func TestHullAll(t *testing.T) {
	for _, p := range somePlates() {
		points := pointsOf(p)
		hull, e := cuts.Hull(p)
		if len(points) == 0 {
			if len(hull) != 0 || e != api.ErrNone {
				t.Errorf("Hull(%v) = %v, %v", p, hull, e)
			}
			continue
		}
		if e != api.OK || len(hull) == 0 || hull[0] != points[0] {
			t.Errorf("Hull(%v) = %v, %v", p, hull, e)
			continue
		}
		for i, a := range hull {
			b, c := hull[(i+1)%len(hull)], hull[(i+2)%len(hull)]
			if !slices.Contains(points, a) || slices.Contains(hull[:i], a) || len(hull) > 2 && turn(a, b, c) <= 0 {
				t.Errorf("Hull(%v) = %v", p, hull)
			}
			for _, x := range points {
				if turn(a, b, x) < 0 || len(hull) == 2 && turn(a, b, x) != 0 || len(hull) == 1 && x != a {
					t.Errorf("Hull(%v) = %v without %v", p, hull, x)
				}
			}
		}
		if len(hull) == 2 && hull[1] != points[len(points)-1] {
			t.Errorf("Hull(%v) = %v", p, hull)
		}
	}
}
