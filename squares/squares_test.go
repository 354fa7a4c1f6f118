package squares_test

import (
	"math"
	"slices"
	"testing"

	"congou/api"
	"congou/squares"
)

// P7.3
func TestClues(t *testing.T) {
	tests := []struct {
		w       int
		picture []int
		want    puzzle
	}{
		{2, []int{3, 1}, puzzle{[][]int{{2}, {1}}, [][]int{{2}, {1}}}},
		{5, []int{23}, puzzle{[][]int{{3, 1}}, [][]int{{1}, {1}, {1}, nil, {1}}}},
		{1, []int{1, 0, 1, 1, 0}, puzzle{[][]int{{1}, nil, {1}, {1}, nil}, [][]int{{1, 2}}}},
		{1, []int{0}, puzzle{[][]int{nil}, [][]int{nil}}},
		{3, []int{5, 0, 5}, puzzle{[][]int{{1, 1}, nil, {1, 1}}, [][]int{{1, 1}, nil, {1, 1}}}},
		{3, []int{1, 3, 4}, puzzle{[][]int{{1}, {2}, {1}}, [][]int{{2}, {1}, {1}}}},
		{4, []int{15, 9}, puzzle{[][]int{{4}, {1, 1}}, [][]int{{2}, {1}, {1}, {2}}}},
		{5, []int{21, 0, 21, 0, 21}, puzzle{
			[][]int{{1, 1, 1}, nil, {1, 1, 1}, nil, {1, 1, 1}}, [][]int{{1, 1, 1}, nil, {1, 1, 1}, nil, {1, 1, 1}}}},
	}
	for _, c := range tests {
		if got, e := squares.Clues(c.w, c.picture); !isSame(got, c.want) || e != api.OK {
			t.Errorf("Clues(%v, %v) = %v, %v", c.w, c.picture, got, e)
		}
	}
}

// P7.3, P7.13, and P2: the filled squares counted by rows, by columns and one by
// one.
func TestCluesAll(t *testing.T) {
	eachSize(12, func(h, w int) {
		for _, picture := range pictures(h, w) {
			before := slices.Clone(picture)
			p, e := squares.Clues(w, picture)
			if !isSame(p, cluesOf(w, picture)) || e != api.OK {
				t.Fatalf("Clues(%v, %v) = %v, %v", w, picture, p, e)
			}
			if n, e := squares.Filled(p); n != countFilled(picture) || e != api.OK {
				t.Fatalf("Filled(%v) = %v, %v", p, n, e)
			}
			if !slices.Equal(picture, before) {
				t.Fatalf("%v became %v", before, picture)
			}
		}
	})
}

// P7.3
func TestCluesErrors(t *testing.T) {
	fails := func(w int, picture []int) {
		before := slices.Clone(picture)
		if got, e := squares.Clues(w, picture); !isZero(got) || e != api.ErrArg {
			t.Errorf("Clues(%v, %v) = %v, %v", w, picture, got, e)
		}
		if !slices.Equal(picture, before) {
			t.Errorf("%v became %v", before, picture)
		}
	}
	for _, w := range notSizes {
		for _, picture := range [][]int{nil, {0}, {1, 0}, {-1}, {math.MaxInt}} {
			fails(w, picture)
		}
	}
	for w := 1; w <= 5; w++ {
		for _, picture := range [][]int{
			nil, {}, {0, 0, 0, 0, 0, 0}, make([]int, 10000),
			{-1}, {0, -1}, {1 << w}, {0, 0, 0, 0, 1 << w}, {1<<w - 1, 1 << w, 0}, {-1 << w}, {1 << 62}, {math.MaxInt}, {0, math.MinInt},
		} {
			fails(w, picture)
		}
	}
}

// P7.7
func TestFilled(t *testing.T) {
	tests := []struct {
		p    puzzle
		want int
		e    api.Errno
	}{
		{puzzle{[][]int{{1}, {1}}, [][]int{{1}, {1}}}, 2, api.OK},
		{puzzle{[][]int{{2}, {1}}, [][]int{{2}, {1}}}, 3, api.OK},
		{puzzle{[][]int{nil, nil}, [][]int{nil}}, 0, api.OK},
		{puzzle{[][]int{{1, 1, 1}}, [][]int{{1}, nil, {1}, nil, {1}}}, 3, api.OK},
		{puzzle{[][]int{{1, 1, 1}}, [][]int{nil, {1}, {1}, {1}, nil}}, 3, api.OK}, // no solution
		{puzzle{[][]int{{5}, {5}, {5}, {5}, {5}}, [][]int{{5}, {5}, {5}, {5}, {5}}}, 25, api.OK},
		{puzzle{[][]int{{1}, nil}, [][]int{{1}, {1}}}, 0, api.ErrNone},
		{puzzle{[][]int{{2}, {2}}, [][]int{{2}, {1}}}, 0, api.ErrNone},
		{puzzle{[][]int{{1}}, [][]int{nil}}, 0, api.ErrNone},
		{puzzle{[][]int{{1, 1}}, [][]int{{1}, nil, nil}}, 0, api.ErrNone},
		{puzzle{[][]int{{5}, {5}, {5}, {5}, {5}}, [][]int{{5}, {5}, {5}, {5}, {4}}}, 0, api.ErrNone},
	}
	for _, c := range tests {
		before := clone(c.p)
		if n, e := squares.Filled(c.p); n != c.want || e != c.e || !isSame(c.p, before) {
			t.Errorf("Filled(%v) = %v, %v", c.p, n, e)
		}
	}
}

// P7.8
func TestTurn(t *testing.T) {
	p := puzzle{[][]int{{1, 3}, {2}}, [][]int{{1}, {1}, {1}, {1}, {2}}}
	want := puzzle{[][]int{{1}, {1}, {1}, {1}, {2}}, [][]int{{1, 3}, {2}}}
	if got, e := squares.Turn(p); !isSame(got, want) || e != api.OK {
		t.Errorf("Turn(%v) = %v, %v", p, got, e)
	}
}

// P7.8
func TestMirror(t *testing.T) {
	p := puzzle{[][]int{{1, 3}, {2}, {1, 1}}, [][]int{{1}, {1, 1}, nil, {3}, {2}}}
	want := puzzle{[][]int{{3, 1}, {2}, {1, 1}}, [][]int{{2}, {3}, nil, {1, 1}, {1}}}
	if got, e := squares.Mirror(p); !isSame(got, want) || e != api.OK {
		t.Errorf("Mirror(%v) = %v, %v", p, got, e)
	}
	// a column's clue stays as it is
	p = puzzle{[][]int{{1}, nil, {1}, {1}, nil}, [][]int{{1, 2}}}
	if got, e := squares.Mirror(p); !isSame(got, p) || e != api.OK {
		t.Errorf("Mirror(%v) = %v, %v", p, got, e)
	}
}

// P7.8, and P5: the Puzzles of a picture that is turned and mirrored.
func TestTurnAll(t *testing.T) {
	eachSize(12, func(h, w int) {
		for _, picture := range pictures(h, w) {
			p := cluesOf(w, picture)
			before := clone(p)
			turn, e := squares.Turn(p)
			if !isSame(turn, cluesOf(h, turnedPicture(w, picture))) || e != api.OK {
				t.Fatalf("Turn(%v) = %v, %v", p, turn, e)
			}
			mirror, e := squares.Mirror(p)
			if !isSame(mirror, cluesOf(w, mirroredPicture(w, picture))) || e != api.OK {
				t.Fatalf("Mirror(%v) = %v, %v", p, mirror, e)
			}
			for _, q := range []puzzle{turn, mirror} {
				for _, clue := range slices.Concat(q.Rows, q.Columns) {
					spoil(clue)
				}
			}
			if !isSame(p, before) {
				t.Fatalf("%v became %v", before, p)
			}
		}
	})
}

// P7.3, P7.8: no two clues of a result share memory.
func TestPuzzlesNew(t *testing.T) {
	p := puzzle{[][]int{{2, 1}, {1, 2}, {1, 1}}, [][]int{{2}, {1, 1}, {1}, {2}}}
	clues, _ := squares.Clues(4, []int{11, 13, 5})
	turn, _ := squares.Turn(p)
	mirror, _ := squares.Mirror(p)
	for _, q := range []puzzle{clues, turn, mirror} {
		list := slices.Concat(q.Rows, q.Columns)
		for i, clue := range list {
			var rest [][]int
			for _, other := range list[i+1:] {
				rest = append(rest, slices.Clone(other))
			}
			spoil(clue)
			if !slices.EqualFunc(list[i+1:], rest, slices.Equal[[]int]) {
				t.Fatalf("%v: clue %v shares memory", q, i)
			}
		}
		spoilLists(q.Rows)
		if slices.ContainsFunc(q.Columns, func(clue []int) bool { return clue == nil }) {
			t.Fatalf("%v: rows and columns share memory", q)
		}
	}
	if slices.ContainsFunc(slices.Concat(p.Rows, p.Columns), func(clue []int) bool { return clue == nil }) {
		t.Fatal(p)
	}
}

// spoilLists makes all slices of a slice nil, up to its capacity.
func spoilLists(list [][]int) {
	list = list[:cap(list)]
	clear(list)
}

// P7.12
func TestTurning(t *testing.T) {
	tried := map[int]int{}
	for _, p := range somePuzzles() {
		turn, _ := squares.Turn(p)
		mirror, _ := squares.Mirror(p)
		for _, q := range []puzzle{turn, mirror} {
			if n, m := count(t, p), count(t, q); n != m {
				t.Errorf("%v, %v: Count %v, %v", p, q, n, m)
			}
			n, e := squares.Filled(p)
			if m, f := squares.Filled(q); n != m || e != f {
				t.Errorf("%v, %v: Filled %v, %v and %v, %v", p, q, n, e, m, f)
			}
			n, e = squares.Try(p)
			if m, f := squares.Try(q); n != m || e != f {
				t.Errorf("%v, %v: Try %v, %v and %v, %v", p, q, n, e, m, f)
			}
			if e == api.OK {
				tried[n]++
			}
		}
		again, _ := squares.Turn(turn)
		back, _ := squares.Mirror(mirror)
		if !isSame(again, p) || !isSame(back, p) {
			t.Errorf("%v: twice %v, %v", p, again, back)
		}
	}
	if tried[0] < 300 || tried[1] < 10 {
		t.Error(tried)
	}
}

// P7.3 to P7.8
func TestNotPuzzles(t *testing.T) {
	eachNotPuzzle(t, func(name string, p puzzle) {
		if got, e := squares.Solve(p); len(got) != 0 || e != api.ErrArg {
			t.Errorf("%s: Solve = %v, %v", name, got, e)
		}
		if n, e := squares.Count(p); n != 0 || e != api.ErrArg {
			t.Errorf("%s: Count = %v, %v", name, n, e)
		}
		if f, m, e := squares.Deduce(p); len(f) != 0 || len(m) != 0 || e != api.ErrArg {
			t.Errorf("%s: Deduce = %v, %v, %v", name, f, m, e)
		}
		if n, e := squares.Try(p); n != 0 || e != api.ErrArg {
			t.Errorf("%s: Try = %v, %v", name, n, e)
		}
		if n, e := squares.Filled(p); n != 0 || e != api.ErrArg {
			t.Errorf("%s: Filled = %v, %v", name, n, e)
		}
		if got, e := squares.Turn(p); !isZero(got) || e != api.ErrArg {
			t.Errorf("%s: Turn = %v, %v", name, got, e)
		}
		if got, e := squares.Mirror(p); !isZero(got) || e != api.ErrArg {
			t.Errorf("%s: Mirror = %v, %v", name, got, e)
		}
	})
}

// P7.4: all clues of a size may be those of a row and of a column; a nil clue
// and an empty one are the same.
func TestArePuzzles(t *testing.T) {
	for h := 1; h <= 5; h++ {
		for w := 1; w <= 5; w++ {
			for _, row := range cluesFor(w) {
				for _, column := range cluesFor(h) {
					p := puzzle{slices.Repeat([][]int{row}, h), slices.Repeat([][]int{column}, w)}
					if _, e := squares.Count(p); e != api.OK {
						t.Fatalf("Count(%v): %v", p, e)
					}
				}
			}
		}
	}
	for _, none := range [][]int{nil, {}} {
		p := puzzle{[][]int{none, {1}}, [][]int{{1}, none}}
		if got, e := squares.Solve(p); !slices.Equal(got, []int{0, 1}) || e != api.OK {
			t.Errorf("Solve(%v) = %v, %v", p, got, e)
		}
	}
}
