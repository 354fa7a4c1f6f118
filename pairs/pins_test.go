package pairs_test

import (
	"math"
	"slices"
	"testing"

	"congou/api"
	"congou/pairs"
)

// notPins are what has 1 to 6 numbers, but no pins.
func notPins() [][]int {
	return [][]int{
		{1}, {-1}, {0, 0}, {1, 1}, {1, 2}, {0, 2}, {-1, 0}, {0, 1, 2}, {2, 1, 0}, {0, 1, 1}, {0, 0, 1}, {0, 2, 3},
		{0, 1, 2, 3}, {0, 1, 3, 3}, {1, 0, 3, 2}, {2, 0, 3, 1}, {0, 2, 1, 3}, {0, 1, 3, 4}, {0, 0, 0, 0, 0, 0},
		{0, 1, 2, 3, 4, 5}, {5, 4, 3, 2, 1, 0}, {0, 1, 3, 2, 5, 6}, {1, 2, 3, 4, 5, 6},
		{math.MaxInt}, {math.MinInt}, {0, math.MaxInt}, {math.MinInt, math.MaxInt}, {math.MaxInt, 0, math.MinInt},
	}
}

// notLengths are what has too few numbers, or too many.
func notLengths() [][]int {
	return [][]int{nil, {}, {2, 1, 5, 0, 4, 3, 6}, {0, 1, 2, 3, 4, 5, 6}, make([]int, 7), make([]int, 10000), {2, 0, 6, 1, 4, 5, 3}, {0, 1, 3, 2, 5, 4, 6, 7}}
}

var notPinCounts = append([]int{0, 7, 8, 9}, far...)

// P8.3, P8.11: all slices of few numbers.
func TestIsPins(t *testing.T) {
	want := []int{1, 2, 4, 12, 40, 116}
	for n := 1; n <= 6; n++ {
		count := 0
		eachSlice(n, -1, n, func(l []int) {
			is, e := pairs.IsPins(l)
			if is != isPinsOf(l) || e != api.OK {
				t.Fatalf("IsPins(%v) = %v, %v", l, is, e)
			}
			if is {
				count++
				return
			}
			if q, e := pairs.Quarter(l); len(q) != 0 || e != api.ErrArg {
				t.Fatalf("Quarter(%v) = %v, %v", l, q, e)
			}
		})
		if count != want[n-1] {
			t.Errorf("%v: %v pins", n, count)
		}
	}
}

// P8.3
func TestIsPinsTable(t *testing.T) {
	for _, l := range [][]int{{0}, {0, 1}, {1, 0}, {0, 2, 1}, {1, 0, 2}, {1, 3, 2, 0}, {2, 3, 1, 0}, {2, 1, 5, 3, 4, 0}, {0, 1, 5, 3, 2, 4}} {
		if is, e := pairs.IsPins(l); is != isPinsOf(l) || e != api.OK {
			t.Errorf("IsPins(%v) = %v, %v", l, is, e)
		}
	}
	for _, l := range notPins() {
		before := slices.Clone(l)
		if is, e := pairs.IsPins(l); is || e != api.OK {
			t.Errorf("IsPins(%v) = %v, %v", l, is, e)
		}
		if q, e := pairs.Quarter(l); len(q) != 0 || e != api.ErrArg {
			t.Errorf("Quarter(%v) = %v, %v", l, q, e)
		}
		if !slices.Equal(l, before) {
			t.Errorf("%v became %v", before, l)
		}
	}
	for _, l := range notLengths() {
		if is, e := pairs.IsPins(l); is || e != api.ErrArg {
			t.Errorf("IsPins(%v) = %v, %v", l, is, e)
		}
		if q, e := pairs.Quarter(l); len(q) != 0 || e != api.ErrArg {
			t.Errorf("Quarter(%v) = %v, %v", l, q, e)
		}
	}
}

// P8.3, P8.11
func TestPins(t *testing.T) {
	count := []int{1, 2, 4, 12, 40, 116}
	for n := 1; n <= 6; n++ {
		var want [][]int
		for _, l := range permutations(n) {
			if isPinsOf(l) {
				want = append(want, l)
			}
		}
		if got := pins(t, n); !sameLists(got, want) || len(got) != count[n-1] {
			t.Errorf("Pins(%v) = %v", n, got)
		}
	}
	if got := pins(t, 3); !sameLists(got, [][]int{{0, 2, 1}, {1, 0, 2}, {1, 2, 0}, {2, 0, 1}}) {
		t.Error(got)
	}
	for _, n := range notPinCounts {
		if l, e := pairs.Pins(n); len(l) != 0 || e != api.ErrArg {
			t.Errorf("Pins(%v) = %v, %v", n, l, e)
		}
	}
}

// P8.9, P8.11: all pins, turned and read backward.
func TestQuarter(t *testing.T) {
	if q, e := pairs.Quarter([]int{1, 3, 2, 0}); !slices.Equal(q, []int{0, 3, 1, 2}) || e != api.OK {
		t.Error(q, e)
	}
	for n := 1; n <= 6; n++ {
		all := pins(t, n)
		seen := map[[6]int]bool{}
		for _, l := range all {
			before := slices.Clone(l)
			q, e := pairs.Quarter(l)
			if len(q) != n || e != api.OK {
				t.Fatalf("Quarter(%v) = %v, %v", l, q, e)
			}
			for i, pin := range l {
				if q[pin] != n-1-i {
					t.Fatalf("Quarter(%v) = %v", l, q)
				}
			}
			for _, other := range [][]int{q, backward(l)} {
				if is, e := pairs.IsPins(other); !is || e != api.OK {
					t.Fatalf("IsPins(%v) = %v, %v", other, is, e)
				}
			}
			around := l
			for range 4 {
				around, e = pairs.Quarter(around)
				if e != api.OK {
					t.Fatalf("Quarter of %v: %v", l, e)
				}
			}
			if !slices.Equal(around, l) || !slices.Equal(l, before) {
				t.Fatalf("%v: %v, %v", before, l, around)
			}
			var key [6]int
			copy(key[:], q)
			seen[key] = true
		}
		if len(seen) != len(all) {
			t.Errorf("%v: %v of %v", n, len(seen), len(all))
		}
	}
}

// P8.4, P8.11
func TestWelch(t *testing.T) {
	tests := []struct {
		p, g int
		want []int
	}{
		{2, 1, []int{0}}, {3, 2, []int{1, 0}}, {5, 2, []int{1, 3, 2, 0}}, {5, 3, []int{2, 3, 1, 0}},
		{7, 3, []int{2, 1, 5, 3, 4, 0}}, {7, 5, []int{4, 3, 5, 1, 2, 0}},
	}
	right := map[[2]int][]int{}
	for _, c := range tests {
		right[[2]int{c.p, c.g}] = c.want
	}
	check := func(p, g int) {
		got, e := pairs.Welch(p, g)
		want, ok := right[[2]int{p, g}]
		if !ok {
			if len(got) != 0 || e != api.ErrArg {
				t.Errorf("Welch(%v, %v) = %v, %v", p, g, got, e)
			}
			return
		}
		if !slices.Equal(got, want) || e != api.OK {
			t.Errorf("Welch(%v, %v) = %v, %v", p, g, got, e)
		}
		if is, e := pairs.IsPins(got); !is || e != api.OK {
			t.Errorf("IsPins(%v) = %v, %v", got, is, e)
		}
		power := 1
		for i, pin := range got {
			power *= g
			if pin != power%p-1 {
				t.Errorf("Welch(%v, %v): %v at %v", p, g, pin, i)
			}
		}
	}
	for p := -20; p <= 60; p++ {
		for g := -20; g <= 60; g++ {
			check(p, g)
		}
	}
	for _, n := range far {
		for m := -1; m <= 11; m++ {
			check(n, m)
			check(m, n)
		}
		for _, m := range far {
			check(n, m)
		}
	}
}

// P8.3, P8.4, P8.9: the results are new memory.
func TestPinsNew(t *testing.T) {
	l := []int{1, 3, 2, 0}
	for range 2 {
		all := pins(t, 4)
		if len(all) != 12 || !slices.Equal(all[0], []int{0, 1, 3, 2}) || !slices.Equal(all[11], []int{3, 2, 0, 1}) {
			t.Fatal(all)
		}
		for i, one := range all {
			if !isPinsOf(one) {
				t.Fatalf("%v at %v", one, i)
			}
			spoil(one, -7)
		}
		welch, e := pairs.Welch(5, 2)
		if !slices.Equal(welch, l) || e != api.OK {
			t.Fatal(welch, e)
		}
		quarter, e := pairs.Quarter(l)
		if !slices.Equal(quarter, []int{0, 3, 1, 2}) || e != api.OK {
			t.Fatal(quarter, e)
		}
		spoil(welch, -7)
		spoil(quarter, -7)
	}
}
