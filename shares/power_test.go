package shares_test

import (
	"math"
	"slices"
	"testing"

	"congou/api"
	"congou/shares"
)

// power adds up the products by taking each share of x for the first base.
func power(x, a []int) int {
	if len(x) == 0 {
		return 1
	}
	sum := 0
	for i, v := range x {
		factor := 1
		for range v {
			factor *= a[0]
		}
		sum += factor * power(slices.Delete(slices.Clone(x), i, i+1), a[1:])
	}
	return sum
}

// P1.5
func TestPower(t *testing.T) {
	tests := []struct {
		x, a []int
		want int
	}{
		{[]int{2, 0}, []int{1, 2}, 5},
		{[]int{1, 1}, []int{1, 2}, 4},
		{[]int{2, 0}, []int{1, 3}, 10},
		{[]int{3}, []int{2}, 8},
		{[]int{0}, []int{5}, 1},
		{[]int{0, 0, 0, 0}, []int{1, 2, 3, 4}, 24},
		{[]int{2, 1, 0}, []int{1, 2, 3}, 48},
		{[]int{6, 6, 6, 6}, []int{5, 5, 5, 5}, 1430511474609375000},
	}
	for _, c := range tests {
		if got, e := shares.Power(c.x, c.a); got != c.want || e != api.OK {
			t.Errorf("Power(%v, %v) = %v, %v", c.x, c.a, got, e)
		}
	}
	for _, x := range allShares(3, 6) {
		for _, a := range [][]int{{1, 1, 1}, {1, 2, 3}, {5, 1, 4}} {
			if got, e := shares.Power(x, a); got != power(x, a) || e != api.OK {
				t.Fatalf("Power(%v, %v) = %v, %v", x, a, got, e)
			}
		}
	}
	for _, x := range allShares(4, 2) {
		a := []int{2, 5, 1, 3}
		if got, e := shares.Power(x, a); got != power(x, a) || e != api.OK {
			t.Fatalf("Power(%v, %v) = %v, %v", x, a, got, e)
		}
	}
}

// P1.5
func TestPowerErrors(t *testing.T) {
	tests := [][2][]int{
		{nil, nil}, {{}, {}}, {{1}, nil}, {nil, {1}}, {{1}, {1, 1}}, {{1, 1}, {1}},
		{{0, 0, 0, 0, 0}, {1, 1, 1, 1, 1}}, {{7}, {1}}, {{-1}, {1}}, {{1}, {0}}, {{1}, {6}}, {{1}, {-1}},
		{{0, 7}, {1, 1}}, {{0, 0}, {1, 6}}, {{0, 0}, {1, 0}},
		{{math.MaxInt}, {1}}, {{math.MinInt}, {1}}, {{1}, {math.MaxInt}}, {{1}, {math.MinInt}},
	}
	for _, c := range tests {
		if got, e := shares.Power(c[0], c[1]); got != 0 || e != api.ErrArg {
			t.Errorf("Power(%v, %v) = %v, %v", c[0], c[1], got, e)
		}
	}
}

// P1.10
func TestPowerIsGreaterIfUneven(t *testing.T) {
	bases := [][]int{{1, 1, 1}, {1, 2, 3}, {2, 2, 5}, {5, 4, 1}}
	list := allShares(3, 5)
	for _, x := range list {
		for _, y := range list {
			if ok, _ := shares.Uneven(x, y); !ok {
				continue
			}
			for _, a := range bases {
				of, _ := shares.Power(x, a)
				than, _ := shares.Power(y, a)
				if of < than {
					t.Fatalf("Power(%v, %v) = %v, Power(%v, %v) = %v", x, a, of, y, a, than)
				}
			}
		}
	}
}
