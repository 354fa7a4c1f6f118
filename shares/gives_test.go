package shares_test

import (
	"math"
	"slices"
	"testing"

	"congou/api"
	"congou/shares"
)

// doGives does the gives to x, as the chapter says; nil if one is not possible.
func doGives(x []int, l []shares.Give) []int {
	state := slices.Clone(x)
	for _, g := range l {
		if g.From == g.To || g.Much < 1 || state[g.From] < state[g.To]+2*g.Much {
			return nil
		}
		state[g.From] -= g.Much
		state[g.To] += g.Much
	}
	return state
}

// P1.2 and P1.8: for all small falling shares.
func TestGivesAll(t *testing.T) {
	for _, list := range [][][]int{allFalling(1, 3), allFalling(2, 8), allFalling(3, 6), allFalling(4, 4), allFalling(6, 2)} {
		for _, x := range list {
			for _, y := range list {
				l, e := shares.Gives(x, y)
				if !uneven(x, y) {
					if len(l) != 0 || e != api.ErrNone {
						t.Fatalf("Gives(%v, %v) = %v, %v", x, y, l, e)
					}
					continue
				}
				if e != api.OK || !slices.Equal(doGives(x, l), y) {
					t.Fatalf("Gives(%v, %v) = %v, %v", x, y, l, e)
				}
				if ok, e := shares.CheckGives(x, y, l); !ok || e != api.OK {
					t.Fatalf("CheckGives(%v, %v, %v) = %v, %v", x, y, l, ok, e)
				}
			}
		}
	}
}

// P1.2
func TestGives(t *testing.T) {
	l, e := shares.Gives([]int{3, 0}, []int{2, 1})
	if !slices.Equal(l, []shares.Give{{From: 0, To: 1, Much: 1}}) || e != api.OK {
		t.Error(l, e)
	}
	if l, e := shares.Gives([]int{3, 3}, []int{3, 3}); len(l) != 0 || e != api.OK {
		t.Error(l, e)
	}
	x, y := []int{20, 20, 20, 0, 0, 0}, []int{10, 10, 10, 10, 10, 10}
	if l, e := shares.Gives(x, y); !slices.Equal(doGives(x, l), y) || e != api.OK {
		t.Error(l, e)
	}
}

// P1.2: ErrArg is before ErrNone.
func TestGivesErrors(t *testing.T) {
	tests := []struct {
		x, y []int
		want api.Errno
	}{
		{[]int{0, 3}, []int{2, 1}, api.ErrArg},
		{[]int{3, 0}, []int{1, 2}, api.ErrArg},
		{[]int{1, 2}, []int{3, 0}, api.ErrArg},
		{[]int{2, 1}, []int{0, 3}, api.ErrArg},
		{[]int{0, 1}, []int{0, 1}, api.ErrArg},
		{[]int{3}, []int{3, 0}, api.ErrArg},
		{[]int{3, 0}, []int{3}, api.ErrArg},
		{[]int{2, 1}, []int{3, 0}, api.ErrNone},
		{[]int{3, 0}, []int{3, 1}, api.ErrNone},
		{[]int{3, 1}, []int{3, 0}, api.ErrNone},
	}
	for _, c := range tests {
		if l, e := shares.Gives(c.x, c.y); len(l) != 0 || e != c.want {
			t.Errorf("Gives(%v, %v) = %v, %v", c.x, c.y, l, e)
		}
	}
	for _, bad := range notShares() {
		good := make([]int, max(1, min(6, len(bad))))
		for _, c := range [][2][]int{{bad, good}, {good, bad}} {
			if l, e := shares.Gives(c[0], c[1]); len(l) != 0 || e != api.ErrArg {
				t.Errorf("Gives(%v, %v) = %v, %v", c[0], c[1], l, e)
			}
			if ok, e := shares.CheckGives(c[0], c[1], nil); ok || e != api.ErrArg {
				t.Errorf("CheckGives(%v, %v) = %v, %v", c[0], c[1], ok, e)
			}
		}
	}
	if ok, e := shares.CheckGives([]int{3}, []int{3, 0}, nil); ok || e != api.ErrArg {
		t.Error(ok, e)
	}
}

// P1.2
func TestCheckGives(t *testing.T) {
	type gives = []shares.Give
	tests := []struct {
		x, y []int
		l    gives
		want bool
	}{
		{[]int{3, 0}, []int{2, 1}, gives{{0, 1, 1}}, true},
		{[]int{0, 3}, []int{1, 2}, gives{{1, 0, 1}}, true},
		{[]int{4, 0}, []int{2, 2}, gives{{0, 1, 2}}, true},
		{[]int{4, 0}, []int{2, 2}, gives{{0, 1, 1}, {0, 1, 1}}, true},
		{[]int{3, 3}, []int{3, 3}, nil, true},
		{[]int{3, 3}, []int{3, 3}, gives{}, true},
		{[]int{6, 2, 0}, []int{4, 2, 2}, gives{{0, 1, 2}, {1, 2, 2}}, true},
		{[]int{6, 2, 0}, []int{4, 2, 2}, gives{{1, 2, 2}, {0, 1, 2}}, false}, // not in this order
		{[]int{4, 0}, []int{2, 2}, nil, false},
		{[]int{4, 0}, []int{2, 2}, gives{{0, 1, 1}}, false},             // not all
		{[]int{3, 0}, []int{1, 2}, gives{{0, 1, 2}}, false},             // poorer behind
		{[]int{3, 0}, []int{2, 1}, gives{{1, 0, 1}}, false},             // from the poorer one
		{[]int{3, 0}, []int{2, 1}, gives{{1, 0, -1}}, false},            // less than 1
		{[]int{3, 0}, []int{3, 0}, gives{{0, 1, 0}}, false},             // less than 1
		{[]int{3, 0}, []int{3, 0}, gives{{0, 1, 1}, {0, 1, -1}}, false}, // back again
		{[]int{3, 0}, []int{3, 0}, gives{{0, 0, 0}}, false},
		{[]int{3, 0}, []int{3, 0}, gives{{0, 0, 1}}, false},
		{[]int{3, 0}, []int{3, 0}, gives{{0, 0, -1}}, false},
		{[]int{3, 0}, []int{2, 1}, gives{{-1, 1, 1}}, false},
		{[]int{3, 0}, []int{2, 1}, gives{{0, -1, 1}}, false},
		{[]int{3, 0}, []int{2, 1}, gives{{2, 1, 1}}, false},
		{[]int{3, 0}, []int{2, 1}, gives{{0, 2, 1}}, false},
		{[]int{3, 0}, []int{2, 1}, gives{{math.MaxInt, math.MinInt, 1}}, false},
		{[]int{3, 0}, []int{3, 0}, gives{{0, 1, math.MaxInt}}, false},
		{[]int{3, 0}, []int{3, 0}, gives{{0, 1, math.MinInt}}, false},
		{[]int{3, 0}, []int{3, 0}, gives{{0, 1, math.MaxInt/2 + 1}, {0, 1, math.MaxInt/2 + 1}}, false},
		{[]int{2, 1}, []int{3, 0}, gives{{0, 1, 1}}, false},
		{[]int{3, 0}, []int{2, 2}, gives{{0, 1, 1}}, false}, // another sum
	}
	for _, c := range tests {
		if got, e := shares.CheckGives(c.x, c.y, c.l); got != c.want || e != api.OK {
			t.Errorf("CheckGives(%v, %v, %v) = %v, %v", c.x, c.y, c.l, got, e)
		}
	}
}

// P1.8: gives make shares more even, and the Gap no greater.
func TestGivesMakeEven(t *testing.T) {
	for _, x := range allShares(3, 5) {
		for from := range 3 {
			for to := range 3 {
				for much := -1; much <= 5; much++ {
					l := []shares.Give{{From: from, To: to, Much: much}}
					y := doGives(x, l)
					if y == nil {
						y = slices.Clone(x)
						y[from] -= much
						y[to] += much
						if ok, _ := shares.CheckGives(x, y, l); ok {
							t.Fatalf("CheckGives(%v, %v, %v)", x, y, l)
						}
						continue
					}
					if ok, e := shares.CheckGives(x, y, l); !ok || e != api.OK {
						t.Fatalf("CheckGives(%v, %v, %v) = %v, %v", x, y, l, ok, e)
					}
					if ok, e := shares.Uneven(x, y); !ok || e != api.OK {
						t.Fatalf("Uneven(%v, %v) = %v, %v", x, y, ok, e)
					}
					gapX, _ := shares.Gap(x)
					gapY, _ := shares.Gap(y)
					if gapY > gapX {
						t.Fatalf("Gap(%v) = %v, Gap(%v) = %v", x, gapX, y, gapY)
					}
				}
			}
		}
	}
}
