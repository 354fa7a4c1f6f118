package arrays_test

import (
	"math/bits"
	"testing"

	"congou/api"
	"congou/arrays"
)

// choicesOf is the number of choices of r of n things: Pascal's triangle.
func choicesOf(n, r int) int {
	if r < 0 || r > n {
		return 0
	}
	if r == 0 || r == n {
		return 1
	}
	return choicesOf(n-1, r-1) + choicesOf(n-1, r)
}

// P9.2
func TestLeast(t *testing.T) {
	// up to how many columns these numbers of rows are the least
	greatest := map[int]int{4: 3, 5: 4, 6: 10, 7: 15, 8: 35}
	for k := 2; k <= 35; k++ {
		n, e := arrays.Least(k)
		if e != api.OK || k > greatest[n] || n > 4 && k <= greatest[n-1] {
			t.Errorf("Least(%v) = %v, %v", k, n, e)
		}
		want := 1
		for k > choicesOf(want-1, want/2-1) {
			want++
		}
		if n != want {
			t.Errorf("Least(%v) = %v", k, n)
		}
	}
	for _, k := range append([]int{0, 1, 37}, far...) {
		if n, e := arrays.Least(k); n != 0 || e != api.ErrArg {
			t.Errorf("Least(%v) = %v, %v", k, n, e)
		}
	}
}

// P9.3, P9.11
func TestMake(t *testing.T) {
	tests := map[int]array{
		2: arrayOf(2, 2, 0, 3, 2, 1),
		3: arrayOf(2, 3, 0, 6, 5, 3),
		4: arrayOf(2, 4, 0, 14, 13, 11, 7),
	}
	for k := 2; k <= 8; k++ {
		a, e := arrays.Make(k)
		n, g := arrays.Least(k)
		if !isValid(a) || a.V != 2 || len(a.Rows) != n || len(a.Rows[0]) != k || e != api.OK || g != api.OK {
			t.Fatalf("Make(%v) = %v, %v", k, a, e)
		}
		sets := columnsOf(n-1, n-n/2)
		for c := range k {
			want := make([]int, n)
			for _, i := range sets[c] {
				want[i+1] = 1
			}
			for i, row := range a.Rows {
				if row[c] != want[i] {
					t.Fatalf("Make(%v) = %v", k, a)
				}
			}
		}
		if want, ok := tests[k]; ok && !same(a, want) {
			t.Errorf("Make(%v) = %v", k, a)
		}
		if ok, e := arrays.Covers(a, 2); !ok || e != api.OK {
			t.Errorf("Covers(Make(%v), 2) = %v, %v", k, ok, e)
		}
	}
	for _, k := range append([]int{0, 1, 9, 10, 16, 35}, far...) {
		if a, e := arrays.Make(k); !isZero(a) || e != api.ErrArg {
			t.Errorf("Make(%v) = %v, %v", k, a, e)
		}
	}
}

// P9.11: all Arrays of fewer rows, for few columns.
func TestLeastAll(t *testing.T) {
	for k := 2; k <= 4; k++ {
		least, e := arrays.Least(k)
		if e != api.OK {
			t.Fatal(k, e)
		}
		for n := 1; n < least; n++ {
			for all := range power(2, n*k) {
				a := withRows(2, n, k, all)
				if ok, e := arrays.Covers(a, 2); ok || e != api.OK {
					t.Fatalf("%v covers 2 columns", a)
				}
			}
		}
	}
}

// mostCovering returns how many columns of n rows there are at most of which each
// two have all choices. Where 0 and 1 change places in a column, what is covered
// stays: all columns begin with 0.
func mostCovering(t *testing.T, n int) int {
	t.Helper()
	columns := 1 << (n - 1)
	fits := make([]uint64, columns)
	for x := range columns {
		for y := range columns {
			a := array{V: 2}
			for i := range n {
				a.Rows = append(a.Rows, []int{x >> i & 1, y >> i & 1})
			}
			ok, e := arrays.Covers(a, 2)
			if e != api.OK {
				t.Fatalf("Covers(%v, 2): %v", a, e)
			}
			if ok {
				fits[x] |= 1 << y
			}
		}
	}
	most := 0
	var more func(have int, left uint64)
	more = func(have int, left uint64) {
		most = max(most, have)
		classes := apartOf(fits, left)
		// at most one column of a class can be taken
		for i := len(classes) - 1; i >= 0 && have+i+1 > most; i-- {
			for class := classes[i]; class != 0; class &= class - 1 {
				x := bits.TrailingZeros64(class)
				more(have+1, left&fits[x])
				left &^= 1 << x
			}
		}
	}
	more(0, ^uint64(0)>>(64-columns))
	return most
}

// apartOf splits a set of columns into classes, in each of which no two have all
// choices.
func apartOf(fits []uint64, left uint64) []uint64 {
	var classes []uint64
	for left != 0 {
		class := uint64(0)
		for free := left; free != 0; {
			x := bits.TrailingZeros64(free)
			class |= 1 << x
			free &^= fits[x] | 1<<x
		}
		classes = append(classes, class)
		left &^= class
	}
	return classes
}

// P9.11: for all numbers of columns that Least takes.
func TestLeastIsLeast(t *testing.T) {
	most := map[int]int{}
	for n := 2; n <= 7; n++ {
		most[n] = mostCovering(t, n)
	}
	for k := 2; k <= 35; k++ {
		least, e := arrays.Least(k)
		if e != api.OK {
			t.Fatal(k, e)
		}
		for n := 2; n < least; n++ {
			if most[n] >= k {
				t.Errorf("Least(%v) = %v, but %v rows are enough for %v", k, least, n, most[n])
			}
		}
		if least <= 7 && most[least] < k {
			t.Errorf("Least(%v) = %v, which is enough for %v", k, least, most[least])
		}
	}
}

// P9.7, P9.13
func TestLines(t *testing.T) {
	tests := []struct {
		p    int
		want array
	}{
		{2, arrayOf(2, 3, 0, 6, 3, 5)},
		{3, array{V: 3, Rows: [][]int{
			{0, 0, 0, 0}, {1, 1, 1, 0}, {2, 2, 2, 0},
			{0, 1, 2, 1}, {1, 2, 0, 1}, {2, 0, 1, 1},
			{0, 2, 1, 2}, {1, 0, 2, 2}, {2, 1, 0, 2},
		}}},
	}
	for _, c := range tests {
		a, e := arrays.Lines(c.p)
		if !same(a, c.want) || e != api.OK {
			t.Errorf("Lines(%v) = %v, %v", c.p, a, e)
		}
		if ok, e := arrays.Fair(a, 2); !ok || e != api.OK {
			t.Errorf("Fair(Lines(%v), 2) = %v, %v", c.p, ok, e)
		}
		if n, e := arrays.Index(a, 2); n != 1 || e != api.OK {
			t.Errorf("Index(Lines(%v), 2) = %v, %v", c.p, n, e)
		}
		if n, e := arrays.Distance(a); n != c.p || e != api.OK {
			t.Errorf("Distance(Lines(%v)) = %v, %v", c.p, n, e)
		}
	}
	for _, p := range append([]int{0, 1, 4, 5, 7}, far...) {
		if a, e := arrays.Lines(p); !isZero(a) || e != api.ErrArg {
			t.Errorf("Lines(%v) = %v, %v", p, a, e)
		}
	}
}

// P9.9
func TestBound(t *testing.T) {
	tests := []struct{ v, k, t, want int }{
		{2, 1, 1, 2}, {3, 1, 1, 3}, {4, 1, 1, 4}, {2, 8, 1, 2}, {4, 8, 1, 4},
		{2, 2, 2, 3}, {2, 3, 2, 4}, {2, 8, 2, 9}, {3, 2, 2, 5}, {3, 4, 2, 9}, {4, 5, 2, 16}, {4, 8, 2, 25},
		{2, 3, 3, 6}, {2, 4, 3, 8}, {2, 8, 3, 16}, {3, 3, 3, 15}, {4, 3, 3, 28}, {4, 8, 3, 88},
	}
	for _, c := range tests {
		if n, e := arrays.Bound(c.v, c.k, c.t); n != c.want || e != api.OK {
			t.Errorf("Bound(%v, %v, %v) = %v, %v", c.v, c.k, c.t, n, e)
		}
	}
	others := append([]int{0, 9, 10}, far...)
	for v := 2; v <= 4; v++ {
		for n := 1; n <= 3; n++ {
			for k := range 11 {
				got, e := arrays.Bound(v, k, n)
				if k < n || k > 8 {
					if got != 0 || e != api.ErrArg {
						t.Errorf("Bound(%v, %v, %v) = %v, %v", v, k, n, got, e)
					}
					continue
				}
				want := []int{v, 1 + k*(v-1), v * (1 + (k-1)*(v-1))}[n-1]
				if got != want || e != api.OK {
					t.Errorf("Bound(%v, %v, %v) = %v, %v", v, k, n, got, e)
				}
			}
			for _, x := range others {
				checkNoBound(t, x, n, n)
				checkNoBound(t, v, x, n)
				checkNoBound(t, v, 8, x)
			}
			checkNoBound(t, 1, n, n)
			checkNoBound(t, 5, n, n)
		}
		checkNoBound(t, v, 8, 4)
		checkNoBound(t, v, 4, 4)
		checkNoBound(t, v, 0, 0)
	}
}

func checkNoBound(t *testing.T, v, k, n int) {
	t.Helper()
	if bound, e := arrays.Bound(v, k, n); bound != 0 || e != api.ErrArg {
		t.Errorf("Bound(%v, %v, %v) = %v, %v", v, k, n, bound, e)
	}
}

// P9.3, P9.7: the results are new memory each time.
func TestMakeNew(t *testing.T) {
	for range 2 {
		a, e := arrays.Make(3)
		if !same(a, arrayOf(2, 3, 0, 6, 5, 3)) || e != api.OK {
			t.Fatal(a, e)
		}
		isApart(t, a)
		l, e := arrays.Lines(2)
		if !same(l, arrayOf(2, 3, 0, 6, 3, 5)) || e != api.OK {
			t.Fatal(l, e)
		}
		isApart(t, l)
	}
}
