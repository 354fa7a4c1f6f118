package counts_test

import (
	"slices"
	"testing"

	"congou/api"
	"congou/counts"
)

// P6.1
func TestSums(t *testing.T) {
	tests := []struct {
		x             table
		rows, columns []int
	}{
		{table{{3, 1}, {1, 3}}, []int{4, 4}, []int{4, 4}},
		{table{{1, 2, 3}, {4, 0, 6}}, []int{6, 10}, []int{5, 2, 9}},
		{table{{1}, {2}, {3}}, []int{1, 2, 3}, []int{6}},
		{table{{1, 2, 3}}, []int{6}, []int{1, 2, 3}},
		{table{{0}}, []int{0}, []int{0}},
		{table{{16}}, []int{16}, []int{16}},
		{table{{0, 0, 0}, {0, 0, 0}, {0, 0, 0}}, []int{0, 0, 0}, []int{0, 0, 0}},
	}
	for _, c := range tests {
		rows, columns, e := counts.Sums(c.x)
		if !slices.Equal(rows, c.rows) || !slices.Equal(columns, c.columns) || e != api.OK {
			t.Errorf("Sums(%v) = %v, %v, %v", c.x, rows, columns, e)
		}
	}
}

// P6.1, and P2: rows and columns count the same items.
func TestSumsAll(t *testing.T) {
	for _, x := range slices.Concat(someTables(), smallTables()) {
		before := clone(x)
		wantRows, wantColumns := sumsOf(x)
		rows, columns, e := counts.Sums(x)
		if !slices.Equal(rows, wantRows) || !slices.Equal(columns, wantColumns) || e != api.OK {
			t.Fatalf("Sums(%v) = %v, %v, %v", x, rows, columns, e)
		}
		if total(rows) != total(columns) {
			t.Fatalf("Sums(%v) = %v, %v", x, rows, columns)
		}
		spoil(table{rows})
		if !slices.Equal(columns, wantColumns) || !isSame(x, before) {
			t.Fatalf("%v: rows share memory", x)
		}
		spoil(table{columns})
		if !isSame(x, before) {
			t.Fatalf("%v became %v", before, x)
		}
	}
}

// P6.1
func TestSumsErrors(t *testing.T) {
	eachNotTable(t, func(name string, x table) {
		if rows, columns, e := counts.Sums(x); len(rows) != 0 || len(columns) != 0 || e != api.ErrArg {
			t.Errorf("%s: Sums = %v, %v, %v", name, rows, columns, e)
		}
	})
}

// P6.7
func TestPlus(t *testing.T) {
	tests := []struct{ x, y, want table }{
		{table{{3, 1}, {1, 3}}, table{{1, 0}, {0, 1}}, table{{4, 1}, {1, 4}}},
		{table{{1, 2, 3}}, table{{0, 4, 6}}, table{{1, 6, 9}}},
		{table{{1}, {2}}, table{{0}, {13}}, table{{1}, {15}}},
		{table{{0}}, table{{16}}, table{{16}}},
		{table{{0, 0, 0}, {0, 0, 0}, {0, 0, 0}}, table{{0, 0, 0}, {0, 0, 0}, {0, 0, 0}}, table{{0, 0, 0}, {0, 0, 0}, {0, 0, 0}}},
		{table{{1, 0, 0}, {0, 1, 0}, {0, 0, 1}}, table{{0, 2, 0}, {0, 0, 3}, {4, 0, 0}}, table{{1, 2, 0}, {0, 1, 3}, {4, 0, 1}}},
	}
	for _, c := range tests {
		for _, pair := range [][2]table{{c.x, c.y}, {c.y, c.x}} {
			if got, e := counts.Plus(pair[0], pair[1]); !isSame(got, c.want) || e != api.OK {
				t.Errorf("Plus(%v, %v) = %v, %v", pair[0], pair[1], got, e)
			}
		}
	}
}

// P6.7: for all pairs of tables.
func TestPlusAll(t *testing.T) {
	ok, none, forms := 0, 0, 0
	for _, x := range someTables() {
		for _, y := range someTables() {
			got, e := counts.Plus(x, y)
			rows, _ := sumsOf(x)
			others, _ := sumsOf(y)
			switch {
			case len(x) != len(y) || len(x[0]) != len(y[0]):
				forms++
				if len(got) != 0 || e != api.ErrArg {
					t.Fatalf("Plus(%v, %v) = %v, %v", x, y, got, e)
				}
			case total(rows)+total(others) > 16:
				none++
				if len(got) != 0 || e != api.ErrNone {
					t.Fatalf("Plus(%v, %v) = %v, %v", x, y, got, e)
				}
			default:
				ok++
				if !isPlus(got, x, y) || e != api.OK {
					t.Fatalf("Plus(%v, %v) = %v, %v", x, y, got, e)
				}
			}
		}
	}
	if ok < 500 || none < 500 || forms < 500 {
		t.Error(ok, none, forms)
	}
}

func isPlus(got, x, y table) bool {
	want := clone(x)
	for i := range x {
		for j := range x[i] {
			want[i][j] += y[i][j]
		}
	}
	return isSame(got, want)
}

// P6.7: the result is new memory.
func TestPlusNew(t *testing.T) {
	x, y := table{{3, 1}, {1, 3}}, table{{1, 0}, {0, 1}}
	got, _ := counts.Plus(x, y)
	spoil(got[:1])
	if !isSame(x, table{{3, 1}, {1, 3}}) || !isSame(y, table{{1, 0}, {0, 1}}) || !slices.Equal(got[1], []int{1, 4}) {
		t.Error(x, y, got)
	}
}

// P6.7
func TestPlusErrors(t *testing.T) {
	eachNotTable(t, func(name string, x table) {
		for _, other := range []table{{{1, 1}, {1, 1}}, {{16}}, x} {
			for _, pair := range [][2]table{{x, other}, {other, x}} {
				if got, e := counts.Plus(pair[0], pair[1]); len(got) != 0 || e != api.ErrArg {
					t.Errorf("%s: Plus(%v, %v) = %v, %v", name, pair[0], pair[1], got, e)
				}
			}
		}
	})
	tests := []struct {
		x, y table
		want api.Errno
	}{
		{table{{16}}, table{{1}}, api.ErrNone},
		{table{{4, 4}, {4, 4}}, table{{1, 0}, {0, 0}}, api.ErrNone},
		{table{{9, 0}, {0, 0}}, table{{0, 0}, {0, 8}}, api.ErrNone}, // each sum is at most 16
		{table{{16}}, table{{16, 0}}, api.ErrArg},                   // too much, and of another form
		{table{{1, 1}}, table{{1}, {1}}, api.ErrArg},
		{table{{1, 1}, {0, 0}}, table{{1, 1}}, api.ErrArg},
		{table{{1, 1}}, table{{1, 1, 0}}, api.ErrArg},
	}
	for _, c := range tests {
		for _, pair := range [][2]table{{c.x, c.y}, {c.y, c.x}} {
			if got, e := counts.Plus(pair[0], pair[1]); len(got) != 0 || e != c.want {
				t.Errorf("Plus(%v, %v) = %v, %v", pair[0], pair[1], got, e)
			}
		}
	}
}

// P6.8
func TestTurn(t *testing.T) {
	tests := []struct{ x, want table }{
		{table{{3, 1}, {0, 2}}, table{{3, 0}, {1, 2}}},
		{table{{1, 2, 3}}, table{{1}, {2}, {3}}},
		{table{{1}, {2}, {3}}, table{{1, 2, 3}}},
		{table{{1, 2, 3}, {4, 5, 0}}, table{{1, 4}, {2, 5}, {3, 0}}},
		{table{{0}}, table{{0}}},
		{table{{0, 1, 2}, {3, 0, 4}, {5, 0, 1}}, table{{0, 3, 5}, {1, 0, 0}, {2, 4, 1}}},
	}
	for _, c := range tests {
		if got, e := counts.Turn(c.x); !isSame(got, c.want) || e != api.OK {
			t.Errorf("Turn(%v) = %v, %v", c.x, got, e)
		}
	}
	for _, x := range slices.Concat(someTables(), smallTables()) {
		before := clone(x)
		got, e := counts.Turn(x)
		if !isSame(got, turned(x)) || e != api.OK {
			t.Fatalf("Turn(%v) = %v, %v", x, got, e)
		}
		if back, e := counts.Turn(got); !isSame(back, x) || e != api.OK {
			t.Fatalf("Turn(%v) = %v, %v", got, back, e)
		}
		rest := clone(got[1:])
		spoil(got[:1])
		if !isSame(x, before) || !isSame(got[1:], rest) {
			t.Fatalf("%v became %v, %v", before, x, got)
		}
	}
}

// P6.8
func TestTurnErrors(t *testing.T) {
	eachNotTable(t, func(name string, x table) {
		if got, e := counts.Turn(x); len(got) != 0 || e != api.ErrArg {
			t.Errorf("%s: Turn = %v, %v", name, got, e)
		}
	})
}
