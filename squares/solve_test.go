package squares_test

import (
	"math/big"
	"slices"
	"testing"

	"congou/api"
	"congou/squares"
)

// P7.4
func TestSolve(t *testing.T) {
	tests := []struct {
		p     puzzle
		want  []int
		count int
	}{
		{puzzle{[][]int{{1}, {1}}, [][]int{{1}, {1}}}, []int{1, 2}, 2},
		{puzzle{[][]int{{2}, {1}}, [][]int{{2}, {1}}}, []int{3, 1}, 1},
		{puzzle{[][]int{nil}, [][]int{nil}}, []int{0}, 1},
		{puzzle{[][]int{{1}}, [][]int{{1}}}, []int{1}, 1},
		{puzzle{[][]int{{1}, {1}, {1}}, [][]int{{1}, {1}, {1}}}, []int{1, 2, 4}, 6},
		{puzzle{[][]int{{1}, {1}, {1}, {1}, {1}}, [][]int{{1}, {1}, {1}, {1}, {1}}}, []int{1, 2, 4, 8, 16}, 120},
		{puzzle{[][]int{{2}, {1, 1}}, [][]int{{1}, {1}, {1}, {1}}}, []int{6, 9}, 1},
		{puzzle{[][]int{{1, 1}, nil}, [][]int{{1}, nil, {1}}}, []int{5, 0}, 1},
		{puzzle{[][]int{{1}, {1}}, [][]int{{1}, nil, {1}}}, []int{1, 4}, 2},
		{puzzle{[][]int{{5}, {5}, {5}, {5}, {5}}, [][]int{{5}, {5}, {5}, {5}, {5}}}, []int{31, 31, 31, 31, 31}, 1},
		{puzzle{[][]int{{1}, nil}, [][]int{{1}, {1}}}, nil, 0},
		{puzzle{[][]int{{1}}, [][]int{nil}}, nil, 0},
		{puzzle{[][]int{{1, 1}, nil}, [][]int{{1}, {1}, nil}}, nil, 0},
		{puzzle{[][]int{{2}, {2}}, [][]int{{2}, nil, {2}}}, nil, 0}, // they sum to the same
	}
	for _, c := range tests {
		want := api.OK
		if c.count == 0 {
			want = api.ErrNone
		}
		if got, e := squares.Solve(c.p); !slices.Equal(got, c.want) || e != want {
			t.Errorf("Solve(%v) = %v, %v", c.p, got, e)
		}
		if n, e := squares.Count(c.p); n != c.count || e != api.OK {
			t.Errorf("Count(%v) = %v, %v", c.p, n, e)
		}
	}
}

// P7.4, P7.10, P7.13: all Puzzles of small sizes, with solutions or none.
func TestSolveAll(t *testing.T) {
	ok, none, many := 0, 0, 0
	eachSize(9, func(h, w int) {
		solutions := solutionsOf(h, w)
		for _, p := range puzzles(h, w) {
			before, list := clone(p), solutions[keyOf(p)]
			got, e := squares.Solve(p)
			n, f := squares.Count(p)
			if n != len(list) || f != api.OK {
				t.Fatalf("Count(%v) = %v, %v", p, n, f)
			}
			if !isSame(p, before) {
				t.Fatalf("%v became %v", before, p)
			}
			if n == 0 {
				none++
				if len(got) != 0 || e != api.ErrNone {
					t.Fatalf("Solve(%v) = %v, %v", p, got, e)
				}
				continue
			}
			ok++
			if n > 1 {
				many++
			}
			if !slices.Equal(got, list[0]) || e != api.OK {
				t.Fatalf("Solve(%v) = %v, %v", p, got, e)
			}
			if filled, e := squares.Filled(p); filled != countFilled(got) || e != api.OK {
				t.Fatalf("Filled(%v) = %v, %v", p, filled, e)
			}
		}
	})
	if ok < 500 || none < 10000 || many < 50 {
		t.Error(ok, none, many)
	}
}

// P7.4, P7.10, P7.13: larger Puzzles, and one clue changed.
func TestSolveSome(t *testing.T) {
	none, many := 0, 0
	next := walk(3)
	for _, p := range somePuzzles() {
		changed := clone(p)
		clues := cluesFor(len(p.Columns))
		changed.Rows[next(len(p.Rows))] = clues[next(len(clues))]
		for _, q := range []puzzle{p, changed} {
			list := solve(q)
			got, e := squares.Solve(q)
			if n := count(t, q); n != len(list) {
				t.Fatalf("Count(%v) = %v", q, n)
			}
			if len(list) == 0 {
				none++
				if len(got) != 0 || e != api.ErrNone {
					t.Fatalf("Solve(%v) = %v, %v", q, got, e)
				}
				continue
			}
			if len(list) > 1 {
				many++
			}
			if !slices.Equal(got, list[0]) || e != api.OK {
				t.Fatalf("Solve(%v) = %v, %v", q, got, e)
			}
			back, e := squares.Clues(len(q.Columns), got)
			if !isSame(back, q) || e != api.OK {
				t.Fatalf("Clues(%v) = %v, not %v", got, back, q)
			}
			if n, e := squares.Filled(q); n != countFilled(got) || e != api.OK {
				t.Fatalf("Filled(%v) = %v, %v", q, n, e)
			}
		}
	}
	if none < 100 || many < 50 {
		t.Error(none, many)
	}
}

// P7.4: the result is new memory.
func TestSolveNew(t *testing.T) {
	p := puzzle{[][]int{{2}, {1}}, [][]int{{2}, {1}}}
	got, _ := squares.Solve(p)
	spoil(got)
	if anew, e := squares.Solve(p); !slices.Equal(anew, []int{3, 1}) || e != api.OK {
		t.Error(anew, e)
	}
}

// P7.14, P7.10, and P2: pictures counted one by one, and by their clues.
func TestPictures(t *testing.T) {
	eachSize(12, func(h, w int) {
		sum := new(big.Rat)
		all, different := 0, map[string]bool{}
		for _, picture := range pictures(h, w) {
			p, e := squares.Clues(w, picture)
			if e != api.OK {
				t.Fatalf("Clues(%v, %v): %v", w, picture, e)
			}
			n := count(t, p)
			if n < 1 {
				t.Fatalf("Count(%v) = %v", p, n)
			}
			sum.Add(sum, big.NewRat(1, int64(n)))
			if key := keyOf(p); !different[key] {
				different[key] = true
				all += n
			}
			first, e := squares.Solve(p)
			if e != api.OK || slices.Compare(first, picture) > 0 {
				t.Fatalf("Solve(%v) = %v, %v", p, first, e)
			}
			if back, _ := squares.Clues(w, first); !isSame(back, p) {
				t.Fatalf("Clues(%v) = %v, not %v", first, back, p)
			}
		}
		if sum.Cmp(big.NewRat(int64(len(different)), 1)) != 0 {
			t.Errorf("%v, %v: %v, not %v", h, w, sum, len(different))
		}
		if all != 1<<(h*w) {
			t.Errorf("%v, %v: %v pictures", h, w, all)
		}
	})
}
