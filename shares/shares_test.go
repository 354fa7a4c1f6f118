package shares_test

import (
	"slices"
	"testing"

	"congou/api"
	"congou/shares"
)

// P1.1
func TestUneven(t *testing.T) {
	tests := []struct {
		x, y []int
		want bool
	}{
		{[]int{3, 0}, []int{2, 1}, true},
		{[]int{2, 2}, []int{3, 1}, false},
		{[]int{0, 3}, []int{1, 2}, true},
		{[]int{1, 2}, []int{2, 1}, true},
		{[]int{3, 0}, []int{2, 2}, false},
		{[]int{3, 0}, []int{2, 0}, false},
		{[]int{4, 1, 1}, []int{3, 3, 0}, false},
		{[]int{3, 3, 0}, []int{4, 1, 1}, false},
		{[]int{20}, []int{20}, true},
		{[]int{20, 20, 20, 0, 0, 0}, []int{10, 10, 10, 10, 10, 10}, true},
		{[]int{0, 0, 0, 0, 0, 0}, []int{0, 0, 0, 0, 0, 0}, true},
	}
	for _, c := range tests {
		if got, e := shares.Uneven(c.x, c.y); got != c.want || e != api.OK {
			t.Errorf("Uneven(%v, %v) = %v, %v", c.x, c.y, got, e)
		}
	}
}

// P1.1: the term itself, for all small shares.
func TestUnevenAll(t *testing.T) {
	for _, list := range [][][]int{allShares(2, 6), allShares(3, 4), allShares(4, 2)} {
		for _, x := range list {
			for _, y := range list {
				if got, e := shares.Uneven(x, y); got != uneven(x, y) || e != api.OK {
					t.Fatalf("Uneven(%v, %v) = %v, %v", x, y, got, e)
				}
			}
		}
	}
}

// P1.1
func TestUnevenErrors(t *testing.T) {
	for _, bad := range notShares() {
		good := make([]int, max(1, min(6, len(bad))))
		for _, c := range [][2][]int{{bad, good}, {good, bad}, {bad, bad}} {
			if ok, e := shares.Uneven(c[0], c[1]); ok || e != api.ErrArg {
				t.Errorf("Uneven(%v, %v) = %v, %v", c[0], c[1], ok, e)
			}
		}
	}
	for _, c := range [][2][]int{{{1}, {1, 0}}, {{1, 0}, {1}}} {
		if ok, e := shares.Uneven(c[0], c[1]); ok || e != api.ErrArg {
			t.Errorf("Uneven(%v, %v) = %v, %v", c[0], c[1], ok, e)
		}
	}
}

// P1.1
func TestGap(t *testing.T) {
	tests := []struct {
		x    []int
		want int
	}{
		{[]int{5, 1, 2}, 8}, {[]int{2, 1, 5}, 8}, {[]int{7}, 0}, {[]int{3, 3, 3}, 0},
		{[]int{0, 20}, 20}, {[]int{20, 20, 20, 0, 0, 0}, 180},
	}
	for _, c := range tests {
		if got, e := shares.Gap(c.x); got != c.want || e != api.OK {
			t.Errorf("Gap(%v) = %v, %v", c.x, got, e)
		}
	}
	for _, bad := range notShares() {
		if got, e := shares.Gap(bad); got != 0 || e != api.ErrArg {
			t.Errorf("Gap(%v) = %v, %v", bad, got, e)
		}
	}
}

// Rule 4: no argument is changed.
func TestArgumentsStay(t *testing.T) {
	x, y := []int{0, 6, 3}, []int{2, 4, 3}
	fx, fy := []int{6, 3, 0}, []int{4, 3, 2}
	a, b := []int{4, 1, 1}, []int{3, 3}
	unchanged(t, func() {
		shares.Uneven(x, y)
		shares.Gap(x)
		shares.Gives(fx, fy)
		shares.CheckGives(x, y, []shares.Give{{From: 1, To: 0, Much: 2}})
		shares.Mix(x, y)
		shares.Power(x, y)
		shares.Meet(a, b)
		shares.Join(a, b)
		shares.Turn(a)
		shares.Below(a)
	}, x, y, fx, fy, a, b)
}

// Rule 4: no two slices of results have the same memory.
func TestResultsAreApart(t *testing.T) {
	a := []int{3, 2}
	for _, f := range []func(a, b []int) ([]int, api.Errno){shares.Meet, shares.Join} {
		got, _ := f(a, a)
		got[0] = 99
		if a[0] != 3 {
			t.Error("the result has the memory of an argument")
		}
	}
	list, _ := shares.Below([]int{4, 2})
	for i := range list {
		_ = append(list[i], 99, 99)
		list[i] = append(list[i][:0], 77)
	}
	again, _ := shares.Below([]int{4, 2})
	if !slices.EqualFunc(again, [][]int{{4, 1, 1}, {3, 3}}, slices.Equal) {
		t.Error(again)
	}
}
