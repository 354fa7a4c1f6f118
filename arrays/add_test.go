package arrays_test

import (
	"slices"
	"testing"

	"congou/api"
	"congou/arrays"
)

// P9.4: what is written out.
func TestAddExamples(t *testing.T) {
	tests := []struct {
		a    array
		t    int
		want []int
	}{
		{arrayOf(2, 2, 0), 1, []int{1, 1}},
		{arrayOf(2, 2, 0), 2, []int{0, 1}},
		{arrayOf(2, 3, 0), 2, []int{0, 1, 1}},
		{arrayOf(2, 3, 0, 3), 2, []int{1, 0, 1}},
		{arrayOf(4, 1, 0, 1), 1, []int{2}},
		{arrayOf(3, 2, 0, 4), 1, []int{2, 2}},
		{arrayOf(2, 3, 0), 3, []int{0, 0, 1}},
		// all comes already: the first row of all
		{arrayOf(2, 2, 3, 2, 1, 0), 2, []int{0, 0}},
		{arrayOf(4, 1, 3, 2, 1, 0), 1, []int{0}},
		// 16 rows are there, but Add writes none more
		{array{V: 2, Rows: slices.Repeat([][]int{{0, 1}}, 16)}, 1, []int{1, 0}},
	}
	for _, c := range tests {
		if row, e := arrays.Add(c.a, c.t); !slices.Equal(row, c.want) || e != api.OK {
			t.Errorf("Add(%v, %v) = %v, %v", c.a, c.t, row, e)
		}
	}
}

// P9.4
func TestAdd(t *testing.T) {
	eachArray(func(a array) {
		k := len(a.Rows[0])
		for n := 1; n <= min(3, k); n++ {
			var row []int
			var e api.Errno
			keeps(t, func() { row, e = arrays.Add(a, n) }, a)
			if k > 4 {
				if len(row) != 0 || e != api.ErrArg {
					t.Fatalf("Add(%v, %v) = %v, %v", a, n, row, e)
				}
				continue
			}
			if !slices.Equal(row, addOf(a, n)) || e != api.OK {
				t.Fatalf("Add(%v, %v) = %v, %v", a, n, row, e)
			}
		}
	})
}

// P9.4
func TestAddErrors(t *testing.T) {
	check := func(a array, n int) {
		t.Helper()
		if row, e := arrays.Add(a, n); len(row) != 0 || e != api.ErrArg {
			t.Errorf("Add(%v, %v) = %v, %v", a, n, row, e)
		}
	}
	for _, a := range notArrays() {
		for _, n := range append([]int{1, 2, 3}, notTogether...) {
			check(a, n)
		}
	}
	for k := 1; k <= 8; k++ {
		a := arrayOf(2, k, 0, 1)
		for _, n := range notTogether {
			check(a, n)
		}
		for n := 1; n <= 3; n++ {
			if n > k || k > 4 {
				check(a, n)
			}
		}
	}
}

// eachGreedy calls f with all arguments of Greedy.
func eachGreedy(f func(v, k, n int)) {
	for v := 2; v <= 3; v++ {
		for n := 1; n <= 2; n++ {
			for k := n; k <= 4; k++ {
				f(v, k, n)
			}
		}
	}
}

// P9.5, P9.12
func TestGreedy(t *testing.T) {
	eachGreedy(func(v, k, n int) {
		want := array{V: v, Rows: [][]int{make([]int, k)}}
		for !coversOf(want, n) {
			row := addOf(want, n)
			if gainOf(want, n, row) == 0 {
				t.Fatalf("Greedy(%v, %v, %v): nothing comes with %v", v, k, n, row)
			}
			want.Rows = append(want.Rows, row)
		}
		if !isValid(want) {
			t.Fatalf("Greedy(%v, %v, %v): %v", v, k, n, want)
		}
		got, e := arrays.Greedy(v, k, n)
		if !same(got, want) || e != api.OK {
			t.Errorf("Greedy(%v, %v, %v) = %v, %v", v, k, n, got, e)
		}
		if ok, e := arrays.Covers(got, n); !ok || e != api.OK {
			t.Errorf("Covers(%v, %v) = %v, %v", got, n, ok, e)
		}
		before, e := arrays.Missing(array{V: v, Rows: got.Rows[:1]}, n)
		for i := 2; i <= len(got.Rows); i++ {
			after, g := arrays.Missing(array{V: v, Rows: got.Rows[:i]}, n)
			if len(after) >= len(before) || e != api.OK || g != api.OK {
				t.Errorf("Greedy(%v, %v, %v): %v adds nothing", v, k, n, got.Rows[i-1])
			}
			before, e = after, g
		}
	})
}

// P9.5: what is written out.
func TestGreedyExamples(t *testing.T) {
	tests := []struct {
		v, k, t int
		want    array
	}{
		{2, 1, 1, arrayOf(2, 1, 0, 1)},
		{2, 4, 1, arrayOf(2, 4, 0, 15)},
		{3, 2, 1, arrayOf(3, 2, 0, 4, 8)},
		{2, 2, 2, arrayOf(2, 2, 0, 1, 2, 3)},
		{2, 3, 2, arrayOf(2, 3, 0, 3, 5, 6)},
		{2, 4, 2, arrayOf(2, 4, 0, 7, 9, 14, 2, 4)},
	}
	for _, c := range tests {
		if a, e := arrays.Greedy(c.v, c.k, c.t); !same(a, c.want) || e != api.OK {
			t.Errorf("Greedy(%v, %v, %v) = %v, %v", c.v, c.k, c.t, a, e)
		}
	}
}

// P9.5
func TestGreedyErrors(t *testing.T) {
	check := func(v, k, n int) {
		t.Helper()
		if a, e := arrays.Greedy(v, k, n); !isZero(a) || e != api.ErrArg {
			t.Errorf("Greedy(%v, %v, %v) = %v, %v", v, k, n, a, e)
		}
	}
	others := append([]int{0, 5, 6, 7, 8, 9}, far...)
	for _, x := range others {
		eachGreedy(func(v, k, n int) {
			check(x, k, n)
			check(v, x, n)
			check(v, k, x)
		})
		check(x, x, x)
	}
	eachGreedy(func(v, k, n int) {
		check(1, k, n)
		check(4, k, n)
		check(v, k, 3)
		check(v, k, 4)
		check(v, n-1, n)
	})
}

// P9.4, P9.5: the results are new memory each time.
func TestAddNew(t *testing.T) {
	a := arrayOf(2, 3, 0, 3)
	for range 2 {
		row, e := arrays.Add(a, 2)
		if !slices.Equal(row, []int{1, 0, 1}) || e != api.OK {
			t.Fatal(row, e)
		}
		isApart(t, array{V: 2, Rows: [][]int{row}}, a)
		g, e := arrays.Greedy(2, 3, 2)
		if !same(g, arrayOf(2, 3, 0, 3, 5, 6)) || e != api.OK {
			t.Fatal(g, e)
		}
		isApart(t, g)
	}
}
