package counts_test

import (
	"math"
	"slices"
	"testing"

	"congou/api"
	"congou/counts"
)

// P6.2
func TestFamily(t *testing.T) {
	tests := []struct {
		x    table
		want []table
	}{
		{table{{3, 1}, {1, 3}}, []table{
			{{0, 4}, {4, 0}}, {{1, 3}, {3, 1}}, {{2, 2}, {2, 2}}, {{3, 1}, {1, 3}}, {{4, 0}, {0, 4}}}},
		{table{{1, 0}, {0, 1}}, []table{{{0, 1}, {1, 0}}, {{1, 0}, {0, 1}}}},
		{table{{1, 2, 3}}, []table{{{1, 2, 3}}}},
		{table{{1}, {2}, {3}}, []table{{{1}, {2}, {3}}}},
		{table{{0}}, []table{{{0}}}},
		{table{{0, 0}, {0, 0}}, []table{{{0, 0}, {0, 0}}}},
		{table{{5, 7}, {0, 0}}, []table{{{5, 7}, {0, 0}}}},
		{table{{1, 0, 0}, {0, 1, 0}}, []table{{{0, 1, 0}, {1, 0, 0}}, {{1, 0, 0}, {0, 1, 0}}}},
		{table{{1, 0, 0}, {0, 1, 0}, {0, 0, 1}}, []table{
			{{0, 0, 1}, {0, 1, 0}, {1, 0, 0}}, {{0, 0, 1}, {1, 0, 0}, {0, 1, 0}},
			{{0, 1, 0}, {0, 0, 1}, {1, 0, 0}}, {{0, 1, 0}, {1, 0, 0}, {0, 0, 1}},
			{{1, 0, 0}, {0, 0, 1}, {0, 1, 0}}, {{1, 0, 0}, {0, 1, 0}, {0, 0, 1}}}},
	}
	for _, c := range tests {
		if got, e := counts.Family(c.x); !areSame(got, c.want) || e != api.OK {
			t.Errorf("Family(%v) = %v, %v", c.x, got, e)
		}
	}
}

// P6.2, P6.9: the words of the chapter.
func TestFamilyAll(t *testing.T) {
	long := 0
	for _, x := range slices.Concat(someTables(), smallTables()) {
		before := clone(x)
		got, e := counts.Family(x)
		if !areSame(got, familyOf(x)) || e != api.OK {
			t.Fatalf("Family(%v) = %v, %v", x, got, e)
		}
		if !slices.IsSortedFunc(got, compare) || !slices.ContainsFunc(got, func(y table) bool { return isSame(x, y) }) {
			t.Fatalf("Family(%v) = %v", x, got)
		}
		long = max(long, len(got))
		rest := cloneAll(got[1:])
		spoil(got[0])
		if !isSame(x, before) || !areSame(got[1:], rest) {
			t.Fatalf("%v became %v, %v", before, x, got)
		}
	}
	if long < 200 {
		t.Error(long)
	}
}

// P6.9: all of one family have the same family, and Count is how many they are.
func TestFamilyOfEach(t *testing.T) {
	for _, x := range someTables() {
		all := family(t, x)
		for _, y := range all {
			if got := family(t, y); !areSame(got, all) {
				t.Fatalf("Family(%v) = %v, not %v", y, got, all)
			}
		}
		rows, columns, _ := counts.Sums(x)
		if n, e := counts.Count(rows, columns); n != len(all) || e != api.OK {
			t.Fatalf("Count(%v, %v) = %v, %v", rows, columns, n, e)
		}
	}
}

// P6.2
func TestFamilyErrors(t *testing.T) {
	eachNotTable(t, func(name string, x table) {
		if got, e := counts.Family(x); len(got) != 0 || e != api.ErrArg {
			t.Errorf("%s: Family = %v, %v", name, got, e)
		}
	})
}

// P6.2
func TestCount(t *testing.T) {
	tests := []struct {
		rows, columns []int
		want          int
	}{
		{[]int{4, 4}, []int{4, 4}, 5},
		{[]int{1, 1}, []int{1, 1}, 2},
		{[]int{1, 1, 1}, []int{1, 1, 1}, 6},
		{[]int{0}, []int{0}, 1},
		{[]int{0, 0, 0}, []int{0}, 1},
		{[]int{16}, []int{5, 5, 6}, 1},
		{[]int{16}, []int{16}, 1},
		{[]int{2, 0}, []int{1, 1}, 1},
		{[]int{2, 2, 2}, []int{2, 2, 2}, 21},
		{[]int{5, 5, 5}, []int{5, 5, 5}, 231},
		{[]int{1, 1}, []int{1, 2}, 0}, // not the same sum
		{[]int{1, 2}, []int{1, 1}, 0},
		{[]int{0}, []int{1}, 0},
		{[]int{1}, []int{0, 0}, 0},
		{[]int{0, 0, 3}, []int{2, 2, 0}, 0},
		{[]int{2, 2, 0}, []int{0, 0, 3}, 0},
		{[]int{16}, []int{15}, 0},
	}
	for _, c := range tests {
		if n, e := counts.Count(c.rows, c.columns); n != c.want || e != api.OK {
			t.Errorf("Count(%v, %v) = %v, %v", c.rows, c.columns, n, e)
		}
	}
}

// P6.2: the words of the chapter, for all small sums.
func TestCountAll(t *testing.T) {
	var lists [][]int
	for n := 1; n <= 3; n++ {
		for sum := range 6 {
			lists = append(lists, listsOfSum(n, sum)...)
		}
	}
	for _, rows := range lists {
		for _, columns := range lists {
			before := slices.Concat(rows, columns)
			n, e := counts.Count(rows, columns)
			if n != len(tablesWith(rows, columns)) || e != api.OK {
				t.Fatalf("Count(%v, %v) = %v, %v", rows, columns, n, e)
			}
			if (n == 0) != (total(rows) != total(columns)) {
				t.Fatalf("Count(%v, %v) = %v", rows, columns, n)
			}
			if !slices.Equal(slices.Concat(rows, columns), before) {
				t.Fatalf("%v became %v, %v", before, rows, columns)
			}
		}
	}
}

// P2: all tables with some sums of rows, by their sums of columns and by how
// each row is shared out.
func TestCountTwice(t *testing.T) {
	for rows := 1; rows <= 3; rows++ {
		for columns := 1; columns <= 3; columns++ {
			for _, r := range slices.Concat(listsOfSum(rows, 7), listsOfSum(rows, 16)[:1]) {
				byColumns, byRows := 0, 1
				for _, c := range listsOfSum(columns, total(r)) {
					n, e := counts.Count(r, c)
					if e != api.OK {
						t.Fatalf("Count(%v, %v): %v", r, c, e)
					}
					byColumns += n
				}
				for _, sum := range r {
					byRows *= len(listsOfSum(columns, sum))
				}
				if byColumns != byRows {
					t.Errorf("%v, %v columns: %v and %v", r, columns, byColumns, byRows)
				}
			}
		}
	}
}

// P2: it is the same by rows as by columns, and in any order of them.
func TestCountTurned(t *testing.T) {
	for _, rows := range listsOfSum(3, 9) {
		for _, columns := range listsOfSum(3, 9) {
			n, _ := counts.Count(rows, columns)
			other, _ := counts.Count(columns, rows)
			back, _ := counts.Count([]int{rows[2], rows[0], rows[1]}, []int{columns[1], columns[0], columns[2]})
			if n != other || n != back {
				t.Fatalf("Count(%v, %v) = %v, %v, %v", rows, columns, n, other, back)
			}
		}
	}
}

// P6.14
func TestCountFourfold(t *testing.T) {
	for sum := range 17 {
		for _, rows := range listsOfSum(2, sum) {
			for _, columns := range listsOfSum(2, sum) {
				want := 1 + slices.Min(slices.Concat(rows, columns))
				if n, e := counts.Count(rows, columns); n != want || e != api.OK {
					t.Fatalf("Count(%v, %v) = %v, %v", rows, columns, n, e)
				}
			}
		}
	}
}

// P6.2
func TestCountErrors(t *testing.T) {
	lists := map[string][]int{
		"nil":              nil,
		"empty":            {},
		"four":             {1, 1, 1, 1},
		"four zeros":       {0, 0, 0, 0},
		"many":             make([]int, 10000),
		"-1":               {-1, 3},
		"-1 at the end":    {3, 0, -1},
		"17":               {17},
		"17 in all":        {8, 9},
		"17 in three":      {6, 6, 5},
		"-1 leaves 16":     {17, -1},
		"-1 before 17":     {-1, 17},
		"the greatest":     {math.MaxInt},
		"around":           {math.MaxInt, math.MaxInt, 2},
		"the least":        {math.MinInt},
		"around the least": {math.MinInt, math.MinInt},
	}
	for name, list := range lists {
		for _, other := range [][]int{{2}, {1, 1}, {16}, list} {
			if n, e := counts.Count(list, other); n != 0 || e != api.ErrArg {
				t.Errorf("%s: Count(_, %v) = %v, %v", name, other, n, e)
			}
			if n, e := counts.Count(other, list); n != 0 || e != api.ErrArg {
				t.Errorf("%s: Count(%v, _) = %v, %v", name, other, n, e)
			}
		}
	}
}
