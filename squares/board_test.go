package squares_test

import (
	"slices"
	"testing"

	"congou/api"
	"congou/squares"
)

// P7.5
func TestDeduce(t *testing.T) {
	tests := []struct {
		p             puzzle
		filled, empty []int
	}{
		{puzzle{[][]int{{1}, {1}}, [][]int{{1}, {1}}}, []int{0, 0}, []int{0, 0}},
		{puzzle{[][]int{{2}, {1}}, [][]int{{2}, {1}}}, []int{3, 1}, []int{0, 2}},
		{puzzle{[][]int{{1}, {2}}, [][]int{{2}, {1}}}, []int{1, 3}, []int{2, 0}},
		{puzzle{[][]int{{2}, {1, 1}}, [][]int{{1}, {1}, {1}, {1}}}, []int{0, 0}, []int{0, 0}},
		{puzzle{[][]int{{4}}, [][]int{{1}, {1}, {1}, {1}, nil}}, []int{15}, []int{16}},
		{puzzle{[][]int{{1}, {1}}, [][]int{{1}, nil, {1}}}, []int{0, 0}, []int{2, 2}},
		{puzzle{[][]int{{3}, {1}, {1}}, [][]int{{1}, {1}, {3}}}, []int{7, 4, 4}, []int{0, 3, 3}},
		{puzzle{[][]int{nil, nil}, [][]int{nil}}, []int{0, 0}, []int{1, 1}},
		{puzzle{[][]int{{1}}, [][]int{{1}}}, []int{1}, []int{0}},
		// no solution, but no line is broken
		{puzzle{[][]int{{1}, {1}}, [][]int{{1}, {1}, {1}}}, []int{0, 0}, []int{0, 0}},
		{puzzle{[][]int{{1}, {1}, {1}}, [][]int{{2}, {1}, {1}}}, []int{0, 1, 0}, []int{0, 6, 0}},
	}
	for _, c := range tests {
		if f, m, e := squares.Deduce(c.p); !slices.Equal(f, c.filled) || !slices.Equal(m, c.empty) || e != api.OK {
			t.Errorf("Deduce(%v) = %v, %v, %v", c.p, f, m, e)
		}
	}
	for _, p := range []puzzle{
		{[][]int{{1}}, [][]int{nil}},
		{[][]int{nil}, [][]int{{1}}},
		{[][]int{{2}, {2}}, [][]int{{2}, nil, {2}}},
		{[][]int{{1}, {1}, {3}}, [][]int{{1}, {1, 1}, {1}}},
		{[][]int{{5}, {5}, {5}, {5}, {5}}, [][]int{{5}, {5}, {5}, {5}, {4}}},
	} {
		if f, m, e := squares.Deduce(p); len(f) != 0 || len(m) != 0 || e != api.ErrNone {
			t.Errorf("Deduce(%v) = %v, %v, %v", p, f, m, e)
		}
	}
}

// deduce tests Deduce by the words of the chapter, and returns whether a line is
// broken, and whether all is known.
func deduce(t *testing.T, p puzzle, solutions [][]int) (broken, isAll bool) {
	t.Helper()
	before := clone(p)
	f, m, e := squares.Deduce(p)
	if !isSame(p, before) {
		t.Fatalf("%v became %v", before, p)
	}
	g, ok := byLines(p, gridOf(p))
	if !ok {
		if len(f) != 0 || len(m) != 0 || e != api.ErrNone || len(solutions) > 0 {
			t.Fatalf("Deduce(%v) = %v, %v, %v", p, f, m, e)
		}
		return true, false
	}
	if !slices.Equal(f, rowsOf(p, g, '#')) || !slices.Equal(m, rowsOf(p, g, '.')) || e != api.OK {
		t.Fatalf("Deduce(%v) = %v, %v, %v", p, f, m, e)
	}
	for _, picture := range solutions {
		for r, row := range picture {
			if row&f[r] != f[r] || row&m[r] != 0 {
				t.Fatalf("Deduce(%v) = %v, %v, but %v", p, f, m, picture)
			}
		}
	}
	if g.isAll() && len(solutions) != 1 {
		t.Fatalf("Deduce(%v) = %v, %v, but %v", p, f, m, solutions)
	}
	return false, g.isAll()
}

// P7.5, P7.11: all Puzzles of small sizes, and larger ones.
func TestDeduceAll(t *testing.T) {
	broken, none, all, some := 0, 0, 0, 0
	test := func(p puzzle, solutions [][]int) {
		isBroken, isAll := deduce(t, p, solutions)
		switch {
		case isBroken:
			broken++
		case isAll:
			all++
		case len(solutions) > 0:
			some++
		default:
			none++
		}
		if n := count(t, p); n != len(solutions) {
			t.Fatalf("Count(%v) = %v", p, n)
		}
	}
	eachSize(9, func(h, w int) {
		solutions := solutionsOf(h, w)
		for _, p := range puzzles(h, w) {
			test(p, solutions[keyOf(p)])
		}
	})
	for _, p := range somePuzzles() {
		test(p, solve(p))
	}
	if broken < 5000 || all < 500 || some < 100 || none < 30 {
		t.Error(broken, all, some, none)
	}
}

// P7.5: the results are new memory.
func TestDeduceNew(t *testing.T) {
	p := puzzle{[][]int{{2}, {1}}, [][]int{{2}, {1}}}
	f, m, _ := squares.Deduce(p)
	spoil(f)
	if !slices.Equal(m, []int{0, 2}) {
		t.Error(m)
	}
	spoil(m)
	f, m, _ = squares.Deduce(p)
	if !slices.Equal(f, []int{3, 1}) || !slices.Equal(m, []int{0, 2}) {
		t.Error(f, m)
	}
}

// P7.6
func TestTry(t *testing.T) {
	tests := []struct {
		p    puzzle
		want int
		e    api.Errno
	}{
		{puzzle{[][]int{{2}, {1}}, [][]int{{2}, {1}}}, 0, api.OK},
		{puzzle{[][]int{nil}, [][]int{nil}}, 0, api.OK},
		{puzzle{[][]int{{1}}, [][]int{{1}}}, 0, api.OK},
		{puzzle{[][]int{{5}, {5}, {5}, {5}, {5}}, [][]int{{5}, {5}, {5}, {5}, {5}}}, 0, api.OK},
		// the upper block is neither at the left nor at the right
		{puzzle{[][]int{{2}, {1, 1}}, [][]int{{1}, {1}, {1}, {1}}}, 1, api.OK},
		{puzzle{[][]int{{1, 1}, {2}}, [][]int{{1}, {1}, {1}, {1}}}, 1, api.OK},
		{puzzle{[][]int{{1}, {1}, {1}, {1}}, [][]int{{1, 1}, {2}}}, 1, api.OK},
		{puzzle{[][]int{{3}, {1, 1}}, [][]int{{1}, {1}, {1}, {1}, {1}}}, 1, api.OK},
		{puzzle{[][]int{{2}, {1, 1}, nil, nil, nil}, [][]int{nil, {1}, {1}, {1}, {1}}}, 1, api.OK},
		{cluesOf(5, hard[0]), 1, api.OK}, {cluesOf(5, hard[1]), 1, api.OK}, {cluesOf(5, hard[2]), 1, api.OK},
		{puzzle{[][]int{{1}, {1}}, [][]int{{1}, {1}}}, 0, api.ErrNone},
		{puzzle{[][]int{{1}, {1}}, [][]int{{1}, nil, {1}}}, 0, api.ErrNone},
		{puzzle{[][]int{{1}}, [][]int{nil}}, 0, api.ErrNone},
		{puzzle{[][]int{{2}, {2}}, [][]int{{2}, nil, {2}}}, 0, api.ErrNone},
		{puzzle{[][]int{{1}, {1}}, [][]int{{1}, {1}, {1}}}, 0, api.ErrNone},
		{puzzle{[][]int{{1}, {1}, {1}, {1}, {1}}, [][]int{{1}, {1}, {1}, {1}, {1}}}, 0, api.ErrNone},
	}
	for _, c := range tests {
		if n, e := squares.Try(c.p); n != c.want || e != c.e {
			t.Errorf("Try(%v) = %v, %v", c.p, n, e)
		}
	}
}

// P7.6: the words of the chapter, for all Puzzles of small sizes, for those of
// all pictures of others, and for larger ones.
func TestTryAll(t *testing.T) {
	tried := map[int]int{}
	test := func(p puzzle, solutions [][]int) {
		before := clone(p)
		n, e := squares.Try(p)
		if !isSame(p, before) {
			t.Fatalf("%v became %v", before, p)
		}
		if len(solutions) != 1 {
			tried[-1]++
			if n != 0 || e != api.ErrNone {
				t.Fatalf("Try(%v) = %v, %v", p, n, e)
			}
			return
		}
		tried[n]++
		if n != tryOf(p) || e != api.OK {
			t.Fatalf("Try(%v) = %v, %v", p, n, e)
		}
	}
	eachSize(12, func(h, w int) {
		solutions := solutionsOf(h, w)
		if h*w <= 9 {
			for _, p := range puzzles(h, w) {
				test(p, solutions[keyOf(p)])
			}
			return
		}
		for _, list := range solutions {
			test(cluesOf(w, list[0]), list)
		}
	})
	for _, p := range somePuzzles() {
		test(p, solve(p))
	}
	if tried[-1] < 10000 || tried[0] < 5000 || tried[1] < 90 {
		t.Error(tried)
	}
}

// P7.6, P7.11: with the depth 0 lines alone settle all.
func TestTryOfDeduce(t *testing.T) {
	for _, p := range somePuzzles() {
		f, m, e := squares.Deduce(p)
		if e != api.OK {
			t.Fatalf("Deduce(%v): %v", p, e)
		}
		isAll := true
		for r := range f {
			isAll = isAll && f[r]|m[r] == 1<<len(p.Columns)-1
		}
		n, e := squares.Try(p)
		if isAll != (n == 0 && e == api.OK) {
			t.Errorf("%v: Try %v, %v, Deduce %v, %v", p, n, e, f, m)
		}
	}
}
