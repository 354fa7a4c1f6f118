package arrays_test

import (
	"slices"
	"testing"

	"congou/api"
	"congou/arrays"
)

// P9.6
func TestDistance(t *testing.T) {
	tests := []struct {
		a    array
		want int
	}{
		{arrayOf(2, 2, 0, 3), 2}, {arrayOf(2, 2, 0, 3, 1), 1}, {arrayOf(2, 2, 1, 1), 0}, {arrayOf(2, 3, 0, 7, 0), 0},
		{arrayOf(2, 8, 0, 255), 8}, {arrayOf(4, 1, 3, 0), 1}, {arrayOf(3, 3, 0, 13, 26), 3}, {arrayOf(2, 4, 15, 0, 5), 2},
	}
	for _, c := range tests {
		if n, e := arrays.Distance(c.a); n != c.want || e != api.OK {
			t.Errorf("Distance(%v) = %v, %v", c.a, n, e)
		}
	}
	eachArray(func(a array) {
		keeps(t, func() {
			n, e := arrays.Distance(a)
			if len(a.Rows) == 1 {
				if n != 0 || e != api.ErrNone {
					t.Fatalf("Distance(%v) = %v, %v", a, n, e)
				}
				return
			}
			if n != distanceOf(a) || e != api.OK {
				t.Fatalf("Distance(%v) = %v, %v", a, n, e)
			}
		}, a)
	})
	for _, a := range notArrays() {
		if n, e := arrays.Distance(a); n != 0 || e != api.ErrArg {
			t.Errorf("Distance(%v) = %v, %v", a, n, e)
		}
	}
}

// checkBoth compares Both with the words of the chapter.
func checkBoth(t *testing.T, a, b array) {
	t.Helper()
	var got array
	var e api.Errno
	keeps(t, func() { got, e = arrays.Both(a, b) }, a, b)
	want := array{V: a.V, Rows: slices.Concat(a.Rows, b.Rows)}
	switch {
	case a.V != b.V || len(a.Rows[0]) != len(b.Rows[0]):
		if !isZero(got) || e != api.ErrArg {
			t.Fatalf("Both(%v, %v) = %v, %v", a, b, got, e)
		}
	case len(want.Rows) > 16:
		if !isZero(got) || e != api.ErrSize {
			t.Fatalf("Both(%v, %v) = %v, %v", a, b, got, e)
		}
	default:
		if !same(got, want) || e != api.OK {
			t.Fatalf("Both(%v, %v) = %v, %v", a, b, got, e)
		}
		isApart(t, got, a, b)
	}
}

// P9.8
func TestBoth(t *testing.T) {
	var list []array
	eachMixed(func(a array) {
		if len(a.Rows)%3 == 1 || len(a.Rows) == 8 || len(a.Rows) == 15 {
			list = append(list, a)
		}
	})
	for _, a := range list {
		for _, b := range list {
			checkBoth(t, a, b)
		}
		// one Array twice
		checkBoth(t, a, a)
	}
	good := arrayOf(2, 2, 0, 3)
	for _, a := range notArrays() {
		for _, b := range append([]array{good, a}, notArrays()[:3]...) {
			if got, e := arrays.Both(a, b); !isZero(got) || e != api.ErrArg {
				t.Errorf("Both(%v, %v) = %v, %v", a, b, got, e)
			}
			if got, e := arrays.Both(b, a); !isZero(got) || e != api.ErrArg {
				t.Errorf("Both(%v, %v) = %v, %v", b, a, got, e)
			}
		}
	}
	// not valid, and too many rows
	many := array{V: 2, Rows: slices.Repeat([][]int{{0, 1}}, 16)}
	long := array{V: 3, Rows: many.Rows}
	if got, e := arrays.Both(many, long); !isZero(got) || e != api.ErrArg {
		t.Error(got, e)
	}
}

// P9.14
func TestBothFair(t *testing.T) {
	both := 0
	for _, c := range fairArrays() {
		for _, d := range fairArrays() {
			got, e := arrays.Both(c.a, d.a)
			if e != api.OK {
				continue
			}
			both++
			for n := 1; n <= min(c.t, d.t); n++ {
				if ok, e := arrays.Fair(got, n); !ok || e != api.OK {
					t.Errorf("Fair(Both(%v, %v), %v) = %v, %v", c.a, d.a, n, ok, e)
				}
			}
		}
	}
	if both < 20 {
		t.Errorf("%v", both)
	}
}

// P9.8, P9.14
func TestDrop(t *testing.T) {
	eachArray(func(a array) {
		k := len(a.Rows[0])
		for c := range k {
			var got array
			var e api.Errno
			keeps(t, func() { got, e = arrays.Drop(a, c) }, a)
			if k == 1 {
				if !isZero(got) || e != api.ErrNone {
					t.Fatalf("Drop(%v, %v) = %v, %v", a, c, got, e)
				}
				continue
			}
			want := array{V: a.V}
			for _, row := range a.Rows {
				want.Rows = append(want.Rows, slices.Concat(row[:c], row[c+1:]))
			}
			if !same(got, want) || e != api.OK {
				t.Fatalf("Drop(%v, %v) = %v, %v", a, c, got, e)
			}
			if covered(t, got) < min(covered(t, a), k-1) || strength(t, got) < min(strength(t, a), k-1) {
				t.Fatalf("Drop(%v, %v) = %v", a, c, got)
			}
			isApart(t, got, a)
		}
		for _, c := range append([]int{k, k + 1}, far...) {
			if got, e := arrays.Drop(a, c); !isZero(got) || e != api.ErrArg {
				t.Fatalf("Drop(%v, %v) = %v, %v", a, c, got, e)
			}
		}
	})
	for _, a := range notArrays() {
		for _, c := range append([]int{0, 1, 2}, far...) {
			if got, e := arrays.Drop(a, c); !isZero(got) || e != api.ErrArg {
				t.Errorf("Drop(%v, %v) = %v, %v", a, c, got, e)
			}
		}
	}
}

// notRenames are what is not all choices, each once.
func notRenames(v int) [][]int {
	list := [][]int{nil, {}, {0}, make([]int, v), make([]int, v-1), make([]int, v+1), make([]int, 1000)}
	for _, to := range permutations(v) {
		list = append(list, append(slices.Clone(to), v), append(slices.Clone(to), 0), to[:v-1])
		for i := range to {
			for _, x := range append([]int{v, v + 1, to[(i+1)%v]}, far...) {
				other := slices.Clone(to)
				other[i] = x
				list = append(list, other)
			}
		}
	}
	return list
}

// P9.8: what is written out.
func TestRenameExamples(t *testing.T) {
	a := array{V: 3, Rows: [][]int{{0, 1}, {1, 1}, {2, 0}}}
	tests := []struct {
		c    int
		to   []int
		want [][]int
	}{
		{0, []int{0, 1, 2}, [][]int{{0, 1}, {1, 1}, {2, 0}}},
		{0, []int{1, 2, 0}, [][]int{{1, 1}, {2, 1}, {0, 0}}},
		{0, []int{2, 0, 1}, [][]int{{2, 1}, {0, 1}, {1, 0}}},
		{1, []int{1, 2, 0}, [][]int{{0, 2}, {1, 2}, {2, 1}}},
	}
	for _, c := range tests {
		if got, e := arrays.Rename(a, c.c, c.to); !same(got, array{V: 3, Rows: c.want}) || e != api.OK {
			t.Errorf("Rename(%v, %v, %v) = %v, %v", a, c.c, c.to, got, e)
		}
	}
}

// checkRename compares Rename with the words of the chapter.
func checkRename(t *testing.T, a array, c int, to []int) {
	t.Helper()
	want := copied(a)
	for _, row := range want.Rows {
		row[c] = to[row[c]]
	}
	var got array
	var e api.Errno
	before := slices.Clone(to)
	keeps(t, func() { got, e = arrays.Rename(a, c, to) }, a)
	if !same(got, want) || e != api.OK || !slices.Equal(to, before) {
		t.Fatalf("Rename(%v, %v, %v) = %v, %v", a, c, before, got, e)
	}
	if covered(t, got) != covered(t, a) || strength(t, got) != strength(t, a) {
		t.Fatalf("Rename(%v, %v, %v) = %v", a, c, to, got)
	}
	old, e := arrays.Distance(a)
	if n, g := arrays.Distance(got); n != old || g != e {
		t.Fatalf("Rename(%v, %v, %v) = %v", a, c, to, got)
	}
	isApart(t, got, a)
}

// P9.8, P9.14
func TestRename(t *testing.T) {
	next := walk(2)
	eachArray(func(a array) {
		all := permutations(a.V)
		for c := range a.Rows[0] {
			checkRename(t, a, c, all[next(len(all))])
		}
	})
	for _, f := range fairArrays() {
		for c := range f.a.Rows[0] {
			for _, to := range permutations(f.a.V) {
				checkRename(t, f.a, c, to)
			}
		}
	}
}

// P9.8
func TestRenameErrors(t *testing.T) {
	check := func(a array, c int, to []int) {
		t.Helper()
		if got, e := arrays.Rename(a, c, to); !isZero(got) || e != api.ErrArg {
			t.Errorf("Rename(%v, %v, %v) = %v, %v", a, c, to, got, e)
		}
	}
	for v := 2; v <= 4; v++ {
		a := arrayOf(v, 2, 0, 1, v)
		for _, to := range notRenames(v) {
			check(a, 0, to)
			check(a, 1, to)
		}
		for _, to := range permutations(v) {
			for _, c := range append([]int{2, 3, 8}, far...) {
				check(a, c, to)
			}
		}
		for w := 2; w <= 4; w++ {
			if w != v {
				check(a, 0, permutations(w)[0])
			}
		}
		// to is not valid, also where it would not be used
		check(array{V: v, Rows: [][]int{{0}}}, 0, []int{0})
	}
	for _, a := range notArrays() {
		for v := 2; v <= 4; v++ {
			check(a, 0, permutations(v)[0])
			check(a, -1, nil)
		}
	}
}

// P9.14, and P5: rows and columns in another order.
func TestOrder(t *testing.T) {
	next := walk(3)
	eachArray(func(a array) {
		rows := copied(a)
		for i := range rows.Rows {
			j := next(i + 1)
			rows.Rows[i], rows.Rows[j] = rows.Rows[j], rows.Rows[i]
		}
		all := permutations(min(4, len(a.Rows[0])))
		columns := copied(a)
		order := all[next(len(all))]
		for i, row := range columns.Rows {
			for c, from := range order {
				row[c] = a.Rows[i][from]
			}
		}
		for _, b := range []array{rows, columns} {
			if covered(t, b) != covered(t, a) || strength(t, b) != strength(t, a) {
				t.Fatalf("%v and %v", a, b)
			}
		}
	})
}
