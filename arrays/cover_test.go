package arrays_test

import (
	"testing"

	"congou/api"
	"congou/arrays"
)

// P9.1, P9.6: the examples, and more that is written out.
func TestCoverExamples(t *testing.T) {
	two := arrayOf(2, 2, 0, 3)
	if ok, e := arrays.Fair(two, 1); !ok || e != api.OK {
		t.Error(ok, e)
	}
	if n, e := arrays.Index(two, 1); n != 1 || e != api.OK {
		t.Error(n, e)
	}
	if l, e := arrays.Missing(two, 2); !sameLists(l, [][]int{{0, 1, 0, 1}, {0, 1, 1, 0}}) || e != api.OK {
		t.Error(l, e)
	}
	three := array{V: 3, Rows: [][]int{{0, 2}, {1, 2}, {0, 0}}}
	if l, e := arrays.Missing(three, 1); !sameLists(l, [][]int{{0, 2}, {1, 1}}) || e != api.OK {
		t.Error(l, e)
	}
	one := array{V: 2, Rows: [][]int{{1, 0, 1}}}
	want := [][]int{
		{0, 1, 0, 0}, {0, 1, 0, 1}, {0, 1, 1, 1}, {0, 2, 0, 0}, {0, 2, 0, 1}, {0, 2, 1, 0},
		{1, 2, 0, 0}, {1, 2, 1, 0}, {1, 2, 1, 1},
	}
	if l, e := arrays.Missing(one, 2); !sameLists(l, want) || e != api.OK {
		t.Error(l, e)
	}
	// covers 2 columns, but is not fair, as 0 0 comes twice
	five := arrayOf(2, 2, 0, 1, 2, 3, 0)
	if ok, e := arrays.Covers(five, 2); !ok || e != api.OK {
		t.Error(ok, e)
	}
	if ok, e := arrays.Fair(five, 2); ok || e != api.OK {
		t.Error(ok, e)
	}
	if n, e := arrays.Index(five, 2); n != 0 || e != api.ErrNone {
		t.Error(n, e)
	}
}

// checkCover compares all that is said of what an Array covers with the words of
// the chapter.
func checkCover(t *testing.T, a array) {
	t.Helper()
	best := 0
	for n := 1; n <= min(3, len(a.Rows[0])); n++ {
		if ok, e := arrays.Covers(a, n); ok != coversOf(a, n) || e != api.OK {
			t.Fatalf("Covers(%v, %v) = %v, %v", a, n, ok, e)
		}
		index := indexOf(a, n)
		if ok, e := arrays.Fair(a, n); ok != (index > 0) || e != api.OK {
			t.Fatalf("Fair(%v, %v) = %v, %v", a, n, ok, e)
		}
		want := api.ErrNone
		if index > 0 {
			best, want = n, api.OK
		}
		if i, e := arrays.Index(a, n); i != index || e != want {
			t.Fatalf("Index(%v, %v) = %v, %v", a, n, i, e)
		}
		if n > 2 {
			continue
		}
		if l, e := arrays.Missing(a, n); !sameLists(l, missingOf(a, n)) || e != api.OK {
			t.Fatalf("Missing(%v, %v) = %v, %v", a, n, l, e)
		}
	}
	if n, e := arrays.Strength(a); n != best || e != api.OK {
		t.Fatalf("Strength(%v) = %v, %v", a, n, e)
	}
}

// P9.1, P9.6, P9.10
func TestCover(t *testing.T) {
	eachArray(func(a array) {
		keeps(t, func() { checkCover(t, a) }, a)
	})
	for _, c := range fairArrays() {
		if n := strength(t, c.a); n != c.t {
			t.Errorf("Strength(%v) = %v", c.a, n)
		}
	}
}

// P9.1, P9.6
func TestCoverErrors(t *testing.T) {
	check := func(a array, n int) {
		t.Helper()
		if ok, e := arrays.Covers(a, n); ok || e != api.ErrArg {
			t.Errorf("Covers(%v, %v) = %v, %v", a, n, ok, e)
		}
		if ok, e := arrays.Fair(a, n); ok || e != api.ErrArg {
			t.Errorf("Fair(%v, %v) = %v, %v", a, n, ok, e)
		}
		if i, e := arrays.Index(a, n); i != 0 || e != api.ErrArg {
			t.Errorf("Index(%v, %v) = %v, %v", a, n, i, e)
		}
		if l, e := arrays.Missing(a, n); len(l) != 0 || e != api.ErrArg {
			t.Errorf("Missing(%v, %v) = %v, %v", a, n, l, e)
		}
	}
	for _, a := range notArrays() {
		for _, n := range append([]int{1, 2, 3}, notTogether...) {
			check(a, n)
		}
		if n, e := arrays.Strength(a); n != 0 || e != api.ErrArg {
			t.Errorf("Strength(%v) = %v, %v", a, n, e)
		}
	}
	for k := 1; k <= 8; k++ {
		a := arrayOf(3, k, 0, 1, 2)
		for _, n := range notTogether {
			check(a, n)
		}
		for n := k + 1; n <= 3; n++ {
			check(a, n)
		}
		// Missing is for no three columns
		if l, e := arrays.Missing(a, 3); len(l) != 0 || e != api.ErrArg {
			t.Errorf("Missing(%v, 3) = %v, %v", a, l, e)
		}
	}
}

// P9.10
func TestFair(t *testing.T) {
	fair := 0
	eachArray(func(a array) {
		k := len(a.Rows[0])
		for n := 1; n <= min(3, k); n++ {
			covers, _ := arrays.Covers(a, n)
			if missing, e := arrays.Missing(a, n); e == api.OK && covers != (len(missing) == 0) {
				t.Fatalf("%v: Missing for %v: %v", a, n, missing)
			}
			index, e := arrays.Index(a, n)
			if e != api.OK {
				continue
			}
			fair++
			bound, g := arrays.Bound(a.V, k, n)
			if !covers || len(a.Rows) != index*power(a.V, n) || len(a.Rows) < bound || g != api.OK {
				t.Fatalf("%v is fair for %v: %v, %v, %v", a, n, covers, index, bound)
			}
			for m := 1; m < n; m++ {
				if ok, e := arrays.Fair(a, m); !ok || e != api.OK {
					t.Fatalf("%v is fair for %v: %v, %v for %v", a, n, ok, e, m)
				}
			}
		}
	})
	if fair < 100 {
		t.Errorf("%v fair Arrays", fair)
	}
}

// P9.1: the result is new memory each time.
func TestMissingNew(t *testing.T) {
	a := arrayOf(2, 3, 0, 7)
	want := missingOf(a, 2)
	for range 2 {
		l, e := arrays.Missing(a, 2)
		if !sameLists(l, want) || e != api.OK {
			t.Fatal(l, e)
		}
		isApart(t, array{V: 2, Rows: l}, a)
	}
}
