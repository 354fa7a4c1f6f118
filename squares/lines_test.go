package squares_test

import (
	"math"
	"slices"
	"testing"

	"congou/api"
	"congou/squares"
)

// P7.1
func TestBlocks(t *testing.T) {
	tests := []struct {
		n, line int
		want    []int
	}{
		{5, 23, []int{3, 1}},
		{5, 29, []int{1, 3}},
		{5, 0, nil}, {1, 0, nil},
		{1, 1, []int{1}},
		{5, 31, []int{5}},
		{5, 21, []int{1, 1, 1}},
		{5, 16, []int{1}},
		{4, 6, []int{2}},
		{4, 13, []int{1, 2}},
		{3, 5, []int{1, 1}},
		{2, 3, []int{2}},
	}
	for _, c := range tests {
		if got, e := squares.Blocks(c.n, c.line); !slices.Equal(got, c.want) || e != api.OK {
			t.Errorf("Blocks(%v, %v) = %v, %v", c.n, c.line, got, e)
		}
	}
}

// P7.1
func TestBlocksAll(t *testing.T) {
	for n := 1; n <= 5; n++ {
		for line := range 1 << n {
			got, e := squares.Blocks(n, line)
			if !slices.Equal(got, blocksOf(n, line)) || e != api.OK {
				t.Errorf("Blocks(%v, %v) = %v, %v", n, line, got, e)
			}
			spoil(got)
			if anew, _ := squares.Blocks(n, line); !slices.Equal(anew, blocksOf(n, line)) {
				t.Errorf("Blocks(%v, %v) anew = %v", n, line, anew)
			}
		}
	}
}

// P7.1
func TestBlocksErrors(t *testing.T) {
	fails := func(n, line int) {
		if got, e := squares.Blocks(n, line); len(got) != 0 || e != api.ErrArg {
			t.Errorf("Blocks(%v, %v) = %v, %v", n, line, got, e)
		}
	}
	for _, n := range notSizes {
		for _, line := range []int{0, 1, 31, -1, math.MinInt} {
			fails(n, line)
		}
	}
	for n := 1; n <= 5; n++ {
		for _, line := range []int{1 << n, 1<<n + 1, 1 << 62, -1, -1 << n, math.MaxInt, math.MinInt} {
			fails(n, line)
		}
	}
}

// P7.1
func TestLines(t *testing.T) {
	tests := []struct {
		n    int
		clue []int
		want []int
	}{
		{3, []int{1}, []int{1, 2, 4}},
		{5, nil, []int{0}}, {5, []int{}, []int{0}},
		{5, []int{5}, []int{31}},
		{5, []int{4}, []int{15, 30}},
		{5, []int{3, 1}, []int{23}},
		{5, []int{1, 3}, []int{29}},
		{5, []int{1, 1, 1}, []int{21}},
		{5, []int{1, 1}, []int{5, 9, 10, 17, 18, 20}},
		{5, []int{2, 1}, []int{11, 19, 22}},
		{5, []int{1, 2}, []int{13, 25, 26}},
		{1, []int{1}, []int{1}},
		{1, nil, []int{0}},
		{2, []int{2}, []int{3}},
	}
	for _, c := range tests {
		if got, e := squares.Lines(c.n, c.clue); !slices.Equal(got, c.want) || e != api.OK {
			t.Errorf("Lines(%v, %v) = %v, %v", c.n, c.clue, got, e)
		}
	}
}

// P7.1, P7.9: for all clues, and for all lists that may be one.
func TestLinesAll(t *testing.T) {
	for n := 1; n <= 5; n++ {
		all := 0
		for _, clue := range lists() {
			before := slices.Clone(clue)
			got, e := squares.Lines(n, clue)
			want := linesOf(n, clue)
			if !slices.Equal(clue, before) {
				t.Fatalf("%v became %v", before, clue)
			}
			if len(want) == 0 {
				if len(got) != 0 || e != api.ErrArg {
					t.Errorf("Lines(%v, %v) = %v, %v", n, clue, got, e)
				}
				continue
			}
			if !slices.Equal(got, want) || e != api.OK || !slices.IsSorted(got) {
				t.Errorf("Lines(%v, %v) = %v, %v", n, clue, got, e)
			}
			all += len(got)
		}
		if all != 1<<n {
			t.Errorf("%v: %v lines", n, all)
		}
	}
}

// lists returns all lists of up to four numbers from -1 to 6.
func lists() [][]int {
	list := [][]int{nil}
	for i := 0; i < len(list); i++ {
		for n := -1; n <= 6 && len(list[i]) < 4; n++ {
			list = append(list, append(slices.Clone(list[i]), n))
		}
	}
	return list
}

// P7.1, P7.2: sizes that are none, and clues of other sizes.
func TestLinesErrors(t *testing.T) {
	fails := func(n int, clue []int) {
		before := slices.Clone(clue)
		if got, e := squares.Lines(n, clue); len(got) != 0 || e != api.ErrArg {
			t.Errorf("Lines(%v, %v) = %v, %v", n, clue, got, e)
		}
		if f, m, e := squares.Tell(n, clue, 0, 0); f != 0 || m != 0 || e != api.ErrArg {
			t.Errorf("Tell(%v, %v, 0, 0) = %v, %v, %v", n, clue, f, m, e)
		}
		if !slices.Equal(clue, before) {
			t.Errorf("%v became %v", before, clue)
		}
	}
	for _, n := range notSizes {
		for _, clue := range [][]int{nil, {1}, {5}, {6}, {0}, {-1}, {n}, {n - 1}, {n + 1}} {
			fails(n, clue)
		}
	}
	for n := 1; n <= 5; n++ {
		for _, clue := range [][]int{
			{n + 1}, {0}, {1, 0}, {-1}, {-1, 1}, {1, -1, 1}, {n, 1}, {1, n - 1}, {1, 1, 1, 1},
			{math.MaxInt}, {math.MinInt}, {1, math.MaxInt}, {math.MaxInt, math.MaxInt}, {math.MinInt, 1}, {math.MinInt, math.MinInt},
			slices.Repeat([]int{1}, 10000), make([]int, 10000),
		} {
			fails(n, clue)
		}
	}
}

// P7.9: lines are just those whose Blocks are the clue.
func TestLinesOfBlocks(t *testing.T) {
	for n := 1; n <= 5; n++ {
		for line := range 1 << n {
			clue, _ := squares.Blocks(n, line)
			for other := range 1 << n {
				list, e := squares.Lines(n, clue)
				blocks, _ := squares.Blocks(n, other)
				if e != api.OK || slices.Contains(list, other) != slices.Equal(blocks, clue) {
					t.Errorf("Lines(%v, %v) = %v, %v; Blocks(%v) = %v", n, clue, list, e, other, blocks)
				}
			}
		}
	}
}

// P7.1: the result is new memory.
func TestLinesNew(t *testing.T) {
	clue := []int{1, 1}
	got, _ := squares.Lines(5, clue)
	spoil(got)
	if anew, _ := squares.Lines(5, clue); !slices.Equal(anew, []int{5, 9, 10, 17, 18, 20}) || !slices.Equal(clue, []int{1, 1}) {
		t.Error(anew, clue)
	}
}

// P7.2
func TestTell(t *testing.T) {
	tests := []struct {
		n             int
		clue          []int
		filled, empty int
		f, m          int
	}{
		{5, []int{4}, 0, 0, 14, 0},
		{5, []int{4}, 1, 0, 15, 16},
		{5, []int{4}, 0, 1, 30, 1},
		{5, []int{1}, 0, 0, 0, 0},
		{5, []int{1}, 4, 0, 4, 27},
		{5, []int{1}, 0, 27, 4, 27},
		{5, []int{1}, 0, 11, 0, 11},
		{5, nil, 0, 0, 0, 31},
		{5, []int{5}, 0, 0, 31, 0},
		{5, []int{2, 2}, 0, 0, 27, 4},
		{5, []int{2, 1}, 0, 0, 2, 0},
		{5, []int{3}, 0, 0, 4, 0},
		{5, []int{3}, 0, 16, 6, 16},
		{5, []int{1, 1}, 1, 0, 1, 2},
		{5, []int{1, 1}, 0, 4, 0, 4},
		{4, []int{2}, 0, 2, 12, 3},
		{1, []int{1}, 0, 0, 1, 0},
		{1, nil, 0, 1, 0, 1},
	}
	for _, c := range tests {
		if f, m, e := squares.Tell(c.n, c.clue, c.filled, c.empty); f != c.f || m != c.m || e != api.OK {
			t.Errorf("Tell(%v, %v, %v, %v) = %v, %v, %v", c.n, c.clue, c.filled, c.empty, f, m, e)
		}
	}
}

// P7.2, P7.9: the words of the chapter, for all that may be known.
func TestTellAll(t *testing.T) {
	ok, none, both, more := 0, 0, 0, 0
	for n := 1; n <= 5; n++ {
		for _, clue := range cluesFor(n) {
			before := slices.Clone(clue)
			for filled := range 1 << n {
				for empty := range 1 << n {
					f, m, e := squares.Tell(n, clue, filled, empty)
					wantF, wantM, isOK := tellOf(n, clue, filled, empty)
					switch {
					case filled&empty != 0:
						both++
						if f != 0 || m != 0 || e != api.ErrArg {
							t.Fatalf("Tell(%v, %v, %v, %v) = %v, %v, %v", n, clue, filled, empty, f, m, e)
						}
						continue
					case !isOK:
						none++
						if f != 0 || m != 0 || e != api.ErrNone {
							t.Fatalf("Tell(%v, %v, %v, %v) = %v, %v, %v", n, clue, filled, empty, f, m, e)
						}
						continue
					}
					ok++
					if f != wantF || m != wantM || e != api.OK {
						t.Fatalf("Tell(%v, %v, %v, %v) = %v, %v, %v", n, clue, filled, empty, f, m, e)
					}
					if f != filled || m != empty {
						more++
					}
					if again, more, e := squares.Tell(n, clue, f, m); again != f || more != m || e != api.OK {
						t.Fatalf("Tell(%v, %v, %v, %v) = %v, %v, %v", n, clue, f, m, again, more, e)
					}
				}
			}
			if !slices.Equal(clue, before) {
				t.Fatalf("%v became %v", before, clue)
			}
		}
	}
	if ok < 500 || none < 500 || both < 500 || more < 300 {
		t.Error(ok, none, both, more)
	}
}

// tellOf is Tell by the words of the chapter: each square that is the same in
// all lines that agree, and what was known.
func tellOf(n int, clue []int, filled, empty int) (f, m int, ok bool) {
	var agree []int
	for _, line := range linesOf(n, clue) {
		if line&filled == filled && line&empty == 0 {
			agree = append(agree, line)
		}
	}
	for i := range n {
		ones := 0
		for _, line := range agree {
			ones += line >> i & 1
		}
		if ones == len(agree) {
			f |= 1 << i
		}
		if ones == 0 {
			m |= 1 << i
		}
	}
	return f, m, len(agree) > 0
}

// P7.2
func TestTellErrors(t *testing.T) {
	tests := []struct {
		n             int
		clue          []int
		filled, empty int
		want          api.Errno
	}{
		{5, []int{4}, -1, 0, api.ErrArg},
		{5, []int{4}, 0, -1, api.ErrArg},
		{5, []int{4}, 32, 0, api.ErrArg},
		{5, []int{4}, 0, 32, api.ErrArg},
		{4, []int{4}, 16, 0, api.ErrArg},
		{4, []int{4}, 0, 16, api.ErrArg},
		{1, []int{1}, 2, 0, api.ErrArg},
		{1, []int{1}, 0, 2, api.ErrArg},
		{5, []int{4}, math.MaxInt, 0, api.ErrArg},
		{5, []int{4}, 0, math.MinInt, api.ErrArg},
		{5, []int{4}, math.MinInt, math.MaxInt, api.ErrArg},
		{5, []int{4}, 3, 2, api.ErrArg},
		{5, []int{1}, 3, 2, api.ErrArg}, // both, and broken
		{5, []int{1}, 3, 32, api.ErrArg},
		{5, []int{4, 1}, 0, 0, api.ErrArg},
		{6, []int{4}, 0, 0, api.ErrArg},
		{0, nil, 0, 0, api.ErrArg},
		{-1, nil, -1, -1, api.ErrArg},
		{5, []int{1}, 3, 0, api.ErrNone},
		{5, []int{1}, 0, 31, api.ErrNone},
		{5, []int{4}, 1, 16 | 2, api.ErrNone},
		{5, []int{4}, 17, 0, api.ErrNone},
		{5, []int{2}, 0, 10, api.ErrNone},
		{5, nil, 1, 0, api.ErrNone},
		{5, []int{5}, 0, 1, api.ErrNone},
		{1, nil, 1, 0, api.ErrNone},
		{1, []int{1}, 0, 1, api.ErrNone},
	}
	for _, c := range tests {
		if f, m, e := squares.Tell(c.n, c.clue, c.filled, c.empty); f != 0 || m != 0 || e != c.want {
			t.Errorf("Tell(%v, %v, %v, %v) = %v, %v, %v", c.n, c.clue, c.filled, c.empty, f, m, e)
		}
	}
}
