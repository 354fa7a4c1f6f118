package pairs_test

import (
	"math"
	"slices"
	"testing"

	"congou/api"
	"congou/pairs"
)

// notRows are what is no row with either shift, the last of 9.
func notRows() [][]int {
	return [][]int{
		nil, {}, {1}, {0}, {0, 0}, {1, 2}, {2, 2}, {-1, -1}, {1, 1, 1}, {1, 1, 2}, {1, 1, 0, 0},
		{1, 1, 2, 2}, {2, 1, 2, 1}, {1, 1, 2, 0, 2}, {0, 1, 1}, {1, 1, 0},
		{1, 1, 3, 4, 2, 3, 2, 5}, {1, 1, 3, 4, 2, 3, 2}, {1, 1, 3, 4, 2, 3, 2, 4, 4}, {1, 1, 3, 4, 2, 3, 2, 4, 5, 5},
		{2, 3, 1, 2, 1}, {2, 3, 1, 2, 1, 4}, {2, 3, 1, 2, 1, 3, 3}, {2, 3, 1, 2, 1, 3, 0, 0},
		{1, 1, 1, 1}, {2, 2, 2, 2}, {3, 3, 3, 3, 3, 3}, {1, 2, 1, 2}, {0, 1, 0, 1}, {1, 0, 1}, {1, 0, 1, 0},
		{math.MaxInt, math.MaxInt}, {math.MinInt, math.MinInt}, {1, math.MaxInt}, {math.MinInt, 1},
		{1, 1, math.MaxInt, math.MaxInt}, {1, 1, math.MinInt, math.MinInt},
		slices.Repeat([]int{1}, 16), slices.Repeat([]int{8}, 16), make([]int, 15), make([]int, 16),
		{1, 1, 2, 5, 2, 6, 7, 8, 5, 3, 4, 6, 3, 7, 4}, {9, 1, 2, 5, 2, 6, 7, 8, 5, 3, 4, 6, 3, 7, 4, 8},
		make([]int, 17), make([]int, 18), slices.Repeat([]int{1}, 10000),
		{1, 1, 2, 5, 2, 6, 7, 8, 5, 3, 4, 6, 3, 7, 4, 8, 0}, {1, 1, 2, 5, 2, 6, 7, 8, 5, 3, 4, 6, 3, 7, 4, 8, 9, 9},
		rowsOf(9, 1)[0],
	}
}

// eachNotRow calls f with what is no row, or not with this shift, and that must
// stay.
func eachNotRow(t *testing.T, f func(s int, row []int)) {
	t.Helper()
	try := func(s int, row []int) {
		before := slices.Clone(row)
		f(s, row)
		if !slices.Equal(row, before) {
			t.Errorf("%v became %v", before, row)
		}
	}
	for s := 1; s <= 2; s++ {
		for _, row := range notRows() {
			try(s, row)
		}
		for n := 1; n <= 8; n++ {
			for _, row := range rowsOf(n, 3-s) {
				try(s, row)
			}
		}
	}
	for _, s := range notShifts {
		try(s, []int{1, 1})
		try(s, []int{1, 1, 3, 4, 2, 3, 2, 4})
		try(s, []int{2, 3, 1, 2, 1, 3})
		try(s, nil)
	}
}

var notShifts = append([]int{0, 3, 4}, far...)

var notCounts = append([]int{0, 9, 10, 12, 16}, far...)

// counts of all rows with the shift 1, and with the shift 2, for n from 1 to 8.
var counts = [2][8]int{{1, 0, 0, 6, 10, 0, 0, 504}, {0, 0, 2, 2, 0, 0, 52, 300}}

// P8.1
func TestIsRow(t *testing.T) {
	rows := []struct {
		s   int
		row []int
	}{
		{1, []int{1, 1}}, {1, []int{1, 1, 3, 4, 2, 3, 2, 4}}, {1, []int{4, 2, 3, 2, 4, 3, 1, 1}}, {1, []int{2, 3, 2, 4, 3, 1, 1, 4}},
		{1, []int{1, 1, 3, 4, 5, 3, 2, 4, 2, 5}}, {1, []int{1, 1, 2, 5, 2, 6, 7, 8, 5, 3, 4, 6, 3, 7, 4, 8}},
		{2, []int{2, 3, 1, 2, 1, 3}}, {2, []int{3, 1, 2, 1, 3, 2}}, {2, []int{4, 1, 3, 1, 2, 4, 3, 2}},
		{2, []int{1, 3, 1, 6, 7, 3, 8, 5, 2, 4, 6, 2, 7, 5, 4, 8}},
	}
	for _, c := range rows {
		if is, e := pairs.IsRow(c.s, c.row); !is || e != api.OK {
			t.Errorf("IsRow(%v, %v) = %v, %v", c.s, c.row, is, e)
		}
		if is, e := pairs.IsRow(3-c.s, c.row); is || e != api.OK {
			t.Errorf("IsRow(%v, %v) = %v, %v", 3-c.s, c.row, is, e)
		}
	}
	for _, row := range notRows() {
		for s := 1; s <= 2; s++ {
			want := api.OK
			if len(row) > 16 {
				want = api.ErrArg
			}
			before := slices.Clone(row)
			if is, e := pairs.IsRow(s, row); is || e != want {
				t.Errorf("IsRow(%v, %v) = %v, %v", s, row, is, e)
			}
			if !slices.Equal(row, before) {
				t.Errorf("%v became %v", before, row)
			}
		}
	}
	for _, s := range notShifts {
		for _, row := range [][]int{nil, {1, 1}, {2, 3, 1, 2, 1, 3}, {1, 2}, make([]int, 17)} {
			if is, e := pairs.IsRow(s, row); is || e != api.ErrArg {
				t.Errorf("IsRow(%v, %v) = %v, %v", s, row, is, e)
			}
		}
	}
}

// P8.1, P8.2, P8.9: all slices with few numbers.
func TestIsRowAll(t *testing.T) {
	some := 0
	for s := 1; s <= 2; s++ {
		check := func(row []int) {
			want := isRowOf(s, row)
			if is, e := pairs.IsRow(s, row); is != want || e != api.OK {
				t.Fatalf("IsRow(%v, %v) = %v, %v", s, row, is, e)
			}
			if want {
				some++
				return
			}
			if l, e := pairs.Places(s, row); len(l) != 0 || e != api.ErrArg {
				t.Fatalf("Places(%v, %v) = %v, %v", s, row, l, e)
			}
			if l, e := pairs.Turn(s, row); len(l) != 0 || e != api.ErrArg {
				t.Fatalf("Turn(%v, %v) = %v, %v", s, row, l, e)
			}
			if l, e := pairs.Split(row); s == 1 && (len(l) != 0 || e != api.ErrArg) {
				t.Fatalf("Split(%v) = %v, %v", row, l, e)
			}
		}
		for n := range 7 {
			eachSlice(n, -1, 4, check)
		}
		eachSlice(7, 0, 4, check)
		eachSlice(8, 1, 4, check)
	}
	if some != 1+6+2+2 {
		t.Errorf("%v rows", some)
	}
}

// P8.1: one number of a row changed, two exchanged, some at its ends.
func TestIsRowChanged(t *testing.T) {
	eachRow(func(n, s int, row []int) {
		if n == 8 && row[0] > 2 {
			return // enough others of 8
		}
		check := func(changed []int) {
			if is, e := pairs.IsRow(s, changed); is != isRowOf(s, changed) || e != api.OK {
				t.Fatalf("IsRow(%v, %v) = %v, %v", s, changed, is, e)
			}
		}
		check(row[1:])
		check(row[:len(row)-1])
		check(row[1 : len(row)-1])
		check(row[2:])
		for i := range row {
			changed := slices.Clone(row)
			for j := range i {
				changed[i], changed[j] = changed[j], changed[i]
				check(changed)
				changed[i], changed[j] = changed[j], changed[i]
			}
			for k := -1; k <= n+2; k++ {
				changed[i] = k
				check(changed)
			}
		}
	})
}

// P8.1, P8.10
func TestFirst(t *testing.T) {
	tests := []struct {
		n, s int
		want []int
	}{
		{4, 1, []int{1, 1, 3, 4, 2, 3, 2, 4}}, {3, 2, []int{2, 3, 1, 2, 1, 3}},
		{1, 1, []int{1, 1}}, {5, 1, []int{1, 1, 3, 4, 5, 3, 2, 4, 2, 5}},
		{4, 2, []int{2, 3, 4, 2, 1, 3, 1, 4}},
	}
	for _, c := range tests {
		if row, e := pairs.First(c.n, c.s); !slices.Equal(row, c.want) || e != api.OK {
			t.Errorf("First(%v, %v) = %v, %v", c.n, c.s, row, e)
		}
	}
}

// P8.1, P8.10, and P2: all rows, counted by the greatest numbers first.
func TestFirstAll(t *testing.T) {
	for n := 1; n <= 8; n++ {
		for s := 1; s <= 2; s++ {
			list := rowsOf(n, s)
			count, e := pairs.Count(n, s)
			if count != len(list) || count != counts[s-1][n-1] || e != api.OK {
				t.Errorf("Count(%v, %v) = %v, %v", n, s, count, e)
			}
			if s == 1 && n > 1 && count%2 != 0 {
				t.Errorf("Count(%v, %v) = %v", n, s, count)
			}
			first, e := pairs.First(n, s)
			there := s == 1 && n%4 <= 1 || s == 2 && (n%4 == 0 || n%4 == 3)
			if there != (len(list) > 0) {
				t.Errorf("%v, %v: %v rows", n, s, len(list))
			}
			if !there {
				if len(first) != 0 || e != api.ErrNone {
					t.Errorf("First(%v, %v) = %v, %v", n, s, first, e)
				}
				continue
			}
			if !slices.Equal(first, list[0]) || e != api.OK {
				t.Errorf("First(%v, %v) = %v, %v", n, s, first, e)
			}
		}
	}
}

// P8.1
func TestFirstErrors(t *testing.T) {
	check := func(n, s int) {
		if row, e := pairs.First(n, s); len(row) != 0 || e != api.ErrArg {
			t.Errorf("First(%v, %v) = %v, %v", n, s, row, e)
		}
		if count, e := pairs.Count(n, s); count != 0 || e != api.ErrArg {
			t.Errorf("Count(%v, %v) = %v, %v", n, s, count, e)
		}
	}
	for _, n := range notCounts {
		check(n, 1)
		check(n, 2)
		check(n, 0)
	}
	for _, s := range notShifts {
		for n := range 10 {
			check(n, s)
		}
	}
}

// P8.2, P8.9, P8.10: all rows.
func TestPlacesAndTurn(t *testing.T) {
	if l, e := pairs.Places(1, []int{1, 1, 3, 4, 2, 3, 2, 4}); !slices.Equal(l, []int{0, 4, 2, 3}) || e != api.OK {
		t.Error(l, e)
	}
	if l, e := pairs.Places(2, []int{2, 3, 1, 2, 1, 3}); !slices.Equal(l, []int{2, 0, 1}) || e != api.OK {
		t.Error(l, e)
	}
	if l, e := pairs.Turn(2, []int{2, 3, 1, 2, 1, 3}); !slices.Equal(l, []int{3, 1, 2, 1, 3, 2}) || e != api.OK {
		t.Error(l, e)
	}
	n := 0
	eachRow(func(most, s int, row []int) {
		n++
		before := slices.Clone(row)
		places, e := pairs.Places(s, row)
		if len(places) != most || e != api.OK {
			t.Fatalf("Places(%v, %v) = %v, %v", s, row, places, e)
		}
		for i, place := range places {
			if row[place] != i+1 || row[place+i+s] != i+1 {
				t.Fatalf("Places(%v, %v) = %v", s, row, places)
			}
		}
		turned, e := pairs.Turn(s, row)
		if !slices.Equal(turned, backward(row)) || !isRowOf(s, turned) || e != api.OK {
			t.Fatalf("Turn(%v, %v) = %v, %v", s, row, turned, e)
		}
		if is, e := pairs.IsRow(s, turned); !is || e != api.OK {
			t.Fatalf("IsRow(%v, %v) = %v, %v", s, turned, is, e)
		}
		if again, e := pairs.Turn(s, turned); !slices.Equal(again, row) || e != api.OK {
			t.Fatalf("Turn(%v, %v) = %v, %v", s, turned, again, e)
		}
		if slices.Equal(turned, row) && most > 1 {
			t.Fatalf("%v is its own turned one", row)
		}
		if !slices.Equal(row, before) {
			t.Fatalf("%v became %v", before, row)
		}
	})
	if n != 521+356 {
		t.Errorf("%v rows", n)
	}
}

// P8.8, P8.14: all rows with the shift 1.
func TestSplit(t *testing.T) {
	l, e := pairs.Split([]int{1, 1, 3, 4, 2, 3, 2, 4})
	if !slices.Equal(l, [][2]int{{1, 2}, {5, 7}, {3, 6}, {4, 8}}) || e != api.OK {
		t.Error(l, e)
	}
	if l, e := pairs.Split([]int{1, 1}); !slices.Equal(l, [][2]int{{1, 2}}) || e != api.OK {
		t.Error(l, e)
	}
	eachRow(func(n, s int, row []int) {
		before := slices.Clone(row)
		l, e := pairs.Split(row)
		if !slices.Equal(row, before) {
			t.Fatalf("%v became %v", before, row)
		}
		if s == 2 {
			if len(l) != 0 || e != api.ErrArg {
				t.Fatalf("Split(%v) = %v, %v", row, l, e)
			}
			return
		}
		if len(l) != n || e != api.OK {
			t.Fatalf("Split(%v) = %v, %v", row, l, e)
		}
		var times [17]int
		for i, p := range l {
			k := i + 1
			if p[1]-p[0] != k || p[0] < 1 || p[1] > 2*n || row[p[0]-1] != k || row[p[1]-1] != k {
				t.Fatalf("Split(%v) = %v", row, l)
			}
			times[p[0]]++
			times[p[1]]++
		}
		for number := 1; number <= 2*n; number++ {
			if times[number] != 1 {
				t.Fatalf("Split(%v) = %v", row, l)
			}
		}
	})
}

// P8.2, P8.8, P8.9
func TestRowErrors(t *testing.T) {
	eachNotRow(t, func(s int, row []int) {
		if l, e := pairs.Places(s, row); len(l) != 0 || e != api.ErrArg {
			t.Errorf("Places(%v, %v) = %v, %v", s, row, l, e)
		}
		if l, e := pairs.Turn(s, row); len(l) != 0 || e != api.ErrArg {
			t.Errorf("Turn(%v, %v) = %v, %v", s, row, l, e)
		}
		if isRowOf(1, row) {
			return
		}
		if l, e := pairs.Split(row); len(l) != 0 || e != api.ErrArg {
			t.Errorf("Split(%v) = %v, %v", row, l, e)
		}
	})
}

// P8.1, P8.2, P8.8, P8.9: the results are new memory.
func TestRowsNew(t *testing.T) {
	row := []int{1, 1, 3, 4, 2, 3, 2, 4}
	for range 2 {
		first, e := pairs.First(4, 1)
		if !slices.Equal(first, row) || e != api.OK {
			t.Fatal(first, e)
		}
		turned, e := pairs.Turn(1, row)
		if !slices.Equal(turned, []int{4, 2, 3, 2, 4, 3, 1, 1}) || e != api.OK {
			t.Fatal(turned, e)
		}
		places, e := pairs.Places(1, row)
		if !slices.Equal(places, []int{0, 4, 2, 3}) || e != api.OK {
			t.Fatal(places, e)
		}
		split, e := pairs.Split(row)
		if !slices.Equal(split, [][2]int{{1, 2}, {5, 7}, {3, 6}, {4, 8}}) || e != api.OK {
			t.Fatal(split, e)
		}
		spoil(first, -7)
		spoil(turned, -7)
		spoil(places, -7)
		spoil(split, [2]int{-7, -7})
	}
}
