package sketch_test

import (
	"math"
	"slices"
	"testing"

	"congou/api"
	"congou/sketch"
)

// P3.4
func TestTable(t *testing.T) {
	tests := []struct {
		d, w   int
		stream []int
		want   [][]int
	}{
		{1, 1, nil, [][]int{{0}}},
		{2, 3, []int{}, [][]int{{0, 0, 0}, {0, 0, 0}}},
		{1, 1, []int{3, 15, 0}, [][]int{{3}}},
		// Row 0: 7 and 3; row 1: 14 and 2; row 2: 21 and 1; row 3: 28 and 1.
		{4, 8, []int{7}, [][]int{{0, 0, 1, 0, 0, 0, 0, 0}, {1, 0, 0, 0, 0, 0, 0, 0}, {0, 0, 0, 0, 0, 0, 1, 0}, {0, 0, 0, 0, 0, 1, 0, 0}}},
		// Row 0: 1, 4 (3 and 1) and 22 (15 and 7); row 1: 2, 7 (6 and 1) and 35 (30 and 5).
		{2, 5, []int{1, 3, 15, 1}, [][]int{{0, 2, 1, 0, 1}, {1, 0, 3, 0, 0}}},
		{1, 8, slices.Repeat([]int{0, 1, 2, 3}, 10), [][]int{{10, 10, 0, 10, 10, 0, 0, 0}}},
	}
	for _, c := range tests {
		if got, e := sketch.Table(c.d, c.w, c.stream); !equalRows(got, c.want) || e != api.OK {
			t.Errorf("Table(%v, %v, %v) = %v, %v", c.d, c.w, c.stream, got, e)
		}
	}
}

// index is where a key counts.
func index(r, key, w int) int {
	return (key*(r+1) + int(math.Floor(float64(key)/float64(r+2)))) % w
}

// eachSize calls f with all sizes of tables.
func eachSize(f func(d, w int)) {
	for d := 1; d <= 4; d++ {
		for w := 1; w <= 8; w++ {
			f(d, w)
		}
	}
}

// P3.4 and P3.9: the term itself, Ask, and the sum of each row.
func TestTableAll(t *testing.T) {
	next := walk(3)
	for range 60 {
		stream := walkedStream(next, next(41))
		eachSize(func(d, w int) {
			got, e := sketch.Table(d, w, stream)
			if len(got) != d || e != api.OK {
				t.Fatalf("Table(%v, %v, %v) = %v, %v", d, w, stream, got, e)
			}
			for r, row := range got {
				want := make([]int, w)
				sum := 0
				for _, key := range stream {
					want[index(r, key, w)]++
				}
				for _, n := range row {
					sum += n
				}
				if !slices.Equal(row, want) || sum != len(stream) {
					t.Fatalf("Table(%v, %v, %v) = %v", d, w, stream, got)
				}
			}
			askAll(t, got, stream)
		})
	}
}

// askAll asks for all keys: the least number, and at least how often they come.
func askAll(t *testing.T, table [][]int, stream []int) {
	t.Helper()
	for key := range 16 {
		want := math.MaxInt
		for r, row := range table {
			want = min(want, row[index(r, key, len(row))])
		}
		if got, e := sketch.Ask(table, key); got != want || got < count(stream, key) || e != api.OK {
			t.Fatalf("Ask(%v, %v) = %v, %v", table, key, got, e)
		}
	}
}

// P3.4
func TestTableErrors(t *testing.T) {
	for _, bad := range notStreams() {
		if got, e := sketch.Table(2, 3, bad); len(got) != 0 || e != api.ErrArg {
			t.Errorf("Table(2, 3, %v) = %v, %v", bad, got, e)
		}
	}
	for _, size := range [][2]int{
		{0, 3}, {5, 3}, {-1, 3}, {2, 0}, {2, 9}, {2, -1}, {0, 0}, {5, 9},
		{math.MaxInt, 3}, {math.MinInt, 3}, {2, math.MaxInt}, {2, math.MinInt}, {math.MaxInt, math.MaxInt},
	} {
		for _, stream := range [][]int{nil, {1, 2, 1}} {
			if got, e := sketch.Table(size[0], size[1], stream); len(got) != 0 || e != api.ErrArg {
				t.Errorf("Table(%v, %v) = %v, %v", size, stream, got, e)
			}
		}
	}
}

// P3.4
func TestAsk(t *testing.T) {
	tests := []struct {
		t         [][]int
		key, want int
	}{
		{[][]int{{80}}, 15, 80},
		{[][]int{{0}}, 0, 0},
		{[][]int{{7}, {5}, {9}, {6}}, 3, 5},
		{[][]int{{7}, {5}, {9}, {4}}, 3, 4},
		{[][]int{{0, 2, 1, 0, 1}, {1, 0, 3, 0, 0}}, 1, 2},
		{[][]int{{0, 2, 1, 0, 1}, {1, 0, 3, 0, 0}}, 3, 1},
		{[][]int{{0, 2, 1, 0, 1}, {1, 0, 3, 0, 0}}, 15, 1},
		{[][]int{{0, 2, 1, 0, 1}, {1, 0, 3, 0, 0}}, 0, 0},
		{[][]int{{0, 2, 1, 0, 1}, {1, 0, 3, 0, 0}}, 2, 0},
		{slices.Repeat([][]int{{80, 80, 80, 80, 80, 80, 80, 80}}, 4), 15, 80},
		{[][]int{{1, 2, 3, 4, 5, 6, 7, 8}, {80, 80, 80, 80, 80, 80, 80, 80}}, 7, 3},
	}
	for _, c := range tests {
		if got, e := sketch.Ask(c.t, c.key); got != c.want || e != api.OK {
			t.Errorf("Ask(%v, %v) = %v, %v", c.t, c.key, got, e)
		}
	}
}

// notTables are slices that are no tables.
func notTables() [][][]int {
	return [][][]int{
		nil, {}, {nil}, {{}}, {{}, {}}, {{1, 2}, {1}}, {{1}, {1, 2}}, {{1}, nil}, {nil, {1}},
		{{1}, {1}, {1}, {1}, {1}}, {make([]int, 9)}, {make([]int, 10000)}, make([][]int, 10000),
		{{81}}, {{-1}}, {{0, 80}, {80, 81}}, {{0, 0}, {-1, 0}}, {{math.MaxInt}}, {{math.MinInt, 1}},
	}
}

// P3.4
func TestAskErrors(t *testing.T) {
	for _, bad := range notTables() {
		for _, key := range []int{0, 15, 16} {
			if got, e := sketch.Ask(bad, key); got != 0 || e != api.ErrArg {
				t.Errorf("Ask(%v, %v) = %v, %v", bad, key, got, e)
			}
		}
	}
	for _, bad := range notKeys() {
		if got, e := sketch.Ask([][]int{{1, 2}, {3, 4}}, bad); got != 0 || e != api.ErrArg {
			t.Errorf("Ask of %v = %v, %v", bad, got, e)
		}
	}
}

// P3.4
func TestAdd(t *testing.T) {
	tests := []struct{ s, t, want [][]int }{
		{[][]int{{0}}, [][]int{{0}}, [][]int{{0}}},
		{[][]int{{80}}, [][]int{{0}}, [][]int{{80}}},
		{[][]int{{40, 1}}, [][]int{{40, 79}}, [][]int{{80, 80}}},
		{[][]int{{1, 2, 3}, {4, 5, 6}}, [][]int{{10, 20, 30}, {40, 50, 60}}, [][]int{{11, 22, 33}, {44, 55, 66}}},
	}
	for _, c := range tests {
		for _, l := range [][2][][]int{{c.s, c.t}, {c.t, c.s}} {
			if got, e := sketch.Add(l[0], l[1]); !equalRows(got, c.want) || e != api.OK {
				t.Errorf("Add(%v, %v) = %v, %v", l[0], l[1], got, e)
			}
		}
	}
}

// P3.4: ErrArg is before ErrNone.
func TestAddErrors(t *testing.T) {
	for _, c := range [][2][][]int{
		{{{80}}, {{1}}}, {{{41}}, {{40}}}, {{{80}}, {{80}}},
		{{{0, 0}, {0, 80}}, {{0, 0}, {0, 1}}}, {{{2, 0}, {0, 0}}, {{79, 0}, {0, 0}}},
	} {
		for _, l := range [][2][][]int{{c[0], c[1]}, {c[1], c[0]}} {
			if got, e := sketch.Add(l[0], l[1]); len(got) != 0 || e != api.ErrNone {
				t.Errorf("Add(%v, %v) = %v, %v", l[0], l[1], got, e)
			}
		}
	}
	tables := [][][]int{{{80}}, {{80, 80}}, {{80}, {80}}, {{80, 80}, {80, 80}}}
	for i, s := range tables {
		for j, u := range tables {
			want := api.ErrArg
			if i == j {
				want = api.ErrNone
			}
			if got, e := sketch.Add(s, u); len(got) != 0 || e != want {
				t.Errorf("Add(%v, %v) = %v, %v", s, u, got, e)
			}
		}
		for _, bad := range notTables() {
			for _, l := range [][2][][]int{{bad, s}, {s, bad}, {bad, bad}} {
				if got, e := sketch.Add(l[0], l[1]); len(got) != 0 || e != api.ErrArg {
					t.Errorf("Add(%v, %v) = %v, %v", l[0], l[1], got, e)
				}
			}
		}
	}
}

// P3.9: Add of two tables is that of one stream after the other.
func TestAddStreams(t *testing.T) {
	next := walk(9)
	for range 60 {
		n := next(41)
		s, u := walkedStream(next, n), walkedStream(next, 40-n)
		both := slices.Concat(s, u)
		eachSize(func(d, w int) {
			a, _ := sketch.Table(d, w, s)
			b, _ := sketch.Table(d, w, u)
			want, _ := sketch.Table(d, w, both)
			if got, e := sketch.Add(a, b); !equalRows(got, want) || e != api.OK {
				t.Fatalf("Add(%v, %v) = %v, %v", a, b, got, e)
			}
		})
	}
	// Two streams of 40 keys each still make a table.
	long, _ := sketch.Table(4, 8, slices.Repeat([]int{6}, 40))
	sum, e := sketch.Add(long, long)
	if n, _ := sketch.Ask(sum, 6); n != 80 || e != api.OK {
		t.Error(sum, e)
	}
}

// P3.10: Table does not depend on the order of the stream.
func TestTableOfOtherOrder(t *testing.T) {
	next := walk(21)
	for range 60 {
		stream := walkedStream(next, next(41))
		sorted, reversed := slices.Sorted(slices.Values(stream)), slices.Clone(stream)
		slices.Reverse(reversed)
		eachSize(func(d, w int) {
			want, _ := sketch.Table(d, w, stream)
			for _, other := range [][]int{sorted, reversed} {
				if got, e := sketch.Table(d, w, other); !equalRows(got, want) || e != api.OK {
					t.Fatalf("Table(%v, %v, %v) = %v, %v", d, w, other, got, e)
				}
			}
		})
	}
}
