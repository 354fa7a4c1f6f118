package counts_test

import (
	"math/big"
	"slices"
	"testing"

	"congou/api"
	"congou/counts"
)

// P6.3
func TestChance(t *testing.T) {
	tests := []struct {
		x            table
		chance, tail api.Frac
	}{
		{table{{3, 1}, {1, 3}}, frac(8, 35), frac(17, 35)},
		{table{{4, 0}, {0, 4}}, frac(1, 70), frac(1, 35)},
		{table{{2, 2}, {2, 2}}, frac(18, 35), frac(1, 1)},
		{table{{1, 0}, {0, 1}}, frac(1, 2), frac(1, 1)},
		{table{{0}}, frac(1, 1), frac(1, 1)},
		{table{{0, 0}, {0, 0}}, frac(1, 1), frac(1, 1)},
		{table{{1, 2, 3}}, frac(1, 1), frac(1, 1)},
		{table{{16}, {0}}, frac(1, 1), frac(1, 1)},
		{table{{8, 0}, {0, 8}}, frac(1, 12870), frac(1, 6435)},
		{table{{0, 3}, {2, 0}}, frac(1, 10), frac(1, 10)},
		{table{{1, 2}, {1, 1}}, frac(3, 5), frac(1, 1)},
		{table{{2, 1}, {0, 2}}, frac(3, 10), frac(2, 5)},
		{table{{6, 0, 0}, {0, 5, 0}, {0, 0, 5}}, frac(1, 2018016), frac(1, 1009008)},
		{table{{1, 0, 0}, {0, 1, 0}, {0, 0, 1}}, frac(1, 6), frac(1, 1)},
	}
	for _, c := range tests {
		if f, e := counts.Chance(c.x); f != c.chance || e != api.OK {
			t.Errorf("Chance(%v) = %v, %v", c.x, f, e)
		}
		if f, e := counts.Tail(c.x); f != c.tail || e != api.OK {
			t.Errorf("Tail(%v) = %v, %v", c.x, f, e)
		}
	}
}

// P6.3: the words of the chapter.
func TestChanceAll(t *testing.T) {
	for _, x := range slices.Concat(someTables(), smallTables()) {
		before := clone(x)
		if f, e := counts.Chance(x); !isExact(f, chanceOf(x)) || e != api.OK {
			t.Fatalf("Chance(%v) = %v, %v", x, f, e)
		}
		if f, e := counts.Tail(x); !isExact(f, tailOf(x)) || e != api.OK {
			t.Fatalf("Tail(%v) = %v, %v", x, f, e)
		}
		if !isSame(x, before) {
			t.Fatalf("%v became %v", before, x)
		}
	}
}

// P6.3, and P2: all orders in which the items may get their columns, counted one
// by one.
func TestChanceByOrders(t *testing.T) {
	list := append(smallTables(), table{{3, 1}, {1, 3}}, table{{2, 1, 0}, {0, 2, 1}, {1, 0, 1}})
	for _, x := range list {
		rows, columns := sumsOf(x)
		got := table{}
		for range rows {
			got = append(got, make([]int, len(columns)))
		}
		all, same := 0, 0
		var give func(row, item int, left []int)
		give = func(row, item int, left []int) {
			for row < len(rows) && item == rows[row] {
				row, item = row+1, 0
			}
			if row == len(rows) {
				all++
				if isSame(got, x) {
					same++
				}
				return
			}
			for j := range left {
				if left[j] > 0 {
					left[j]--
					got[row][j]++
					give(row, item+1, left)
					got[row][j]--
					left[j]++
				}
			}
		}
		give(0, 0, columns)
		if f, e := counts.Chance(x); !isExact(f, big.NewRat(int64(same), int64(all))) || e != api.OK {
			t.Fatalf("Chance(%v) = %v, %v, not %v of %v", x, f, e, same, all)
		}
	}
}

// P6.10
func TestChances(t *testing.T) {
	above, between := 0, 0
	for _, x := range someTables() {
		all := family(t, x)
		sum, most := whole(0), whole(0)
		for _, y := range all {
			c := rat(chance(t, y))
			sum.Add(sum, c)
			if c.Cmp(most) > 0 {
				most = c
			}
		}
		if sum.Cmp(whole(1)) != 0 {
			t.Fatalf("%v: the chances sum to %v", x, sum)
		}
		for _, y := range all {
			c, f := rat(chance(t, y)), rat(tail(t, y))
			if f.Cmp(c) < 0 || f.Cmp(whole(1)) > 0 {
				t.Fatalf("%v: Chance %v, Tail %v", y, c, f)
			}
			if c.Cmp(most) == 0 && f.Cmp(whole(1)) != 0 {
				t.Fatalf("%v is most likely, Tail %v", y, f)
			}
			if f.Cmp(c) > 0 {
				above++
			}
			if f.Cmp(whole(1)) < 0 {
				between++
			}
		}
	}
	if above < 500 || between < 500 {
		t.Error(above, between)
	}
}

// P6.3
func TestChanceErrors(t *testing.T) {
	eachNotTable(t, func(name string, x table) {
		if f, e := counts.Chance(x); f != (api.Frac{}) || e != api.ErrArg {
			t.Errorf("%s: Chance = %v, %v", name, f, e)
		}
		if f, e := counts.Tail(x); f != (api.Frac{}) || e != api.ErrArg {
			t.Errorf("%s: Tail = %v, %v", name, f, e)
		}
	})
}

// P6.4
func TestOff(t *testing.T) {
	tests := []struct {
		x    table
		want api.Frac
	}{
		{table{{3, 1}, {1, 3}}, frac(2, 1)},
		{table{{4, 0}, {0, 4}}, frac(8, 1)},
		{table{{2, 2}, {2, 2}}, frac(0, 1)},
		{table{{1}}, frac(0, 1)},
		{table{{1, 2, 3}}, frac(0, 1)},
		{table{{1}, {2}}, frac(0, 1)},
		{table{{1, 2, 3}, {2, 4, 4}}, frac(16, 105)},
		{table{{1, 2}, {2, 4}}, frac(0, 1)},
		{table{{1, 0}, {1, 1}}, frac(3, 4)},
		{table{{6, 0, 0}, {0, 5, 0}, {0, 0, 5}}, frac(32, 1)},
		{table{{1, 0, 0}, {0, 1, 0}, {0, 0, 1}}, frac(6, 1)},
		{table{{2, 0, 1}, {0, 3, 4}, {3, 1, 2}}, frac(4694, 735)},
	}
	for _, c := range tests {
		if f, e := counts.Off(c.x); f != c.want || e != api.OK {
			t.Errorf("Off(%v) = %v, %v, not %v", c.x, f, e, c.want)
		}
	}
}

// P6.4, P6.11: the words of the chapter.
func TestOffAll(t *testing.T) {
	none, due, more, greatest := 0, 0, 0, 0
	for _, x := range slices.Concat(someTables(), smallTables(), walkedTables(300, 2)) {
		before := clone(x)
		f, e := counts.Off(x)
		if !isSame(x, before) {
			t.Fatalf("%v became %v", before, x)
		}
		if hasZeroSum(x) {
			none++
			if f != (api.Frac{}) || e != api.ErrState {
				t.Fatalf("Off(%v) = %v, %v", x, f, e)
			}
			continue
		}
		if !isExact(f, offOf(x)) || e != api.OK {
			t.Fatalf("Off(%v) = %v, %v", x, f, e)
		}
		rows, _ := sumsOf(x)
		bound := whole(total(rows) * (min(len(x), len(x[0])) - 1))
		if f.Num < 0 || rat(f).Cmp(bound) > 0 || (f.Num == 0) != isDue(x) {
			t.Fatalf("Off(%v) = %v", x, f)
		}
		switch {
		case f.Num == 0:
			due++
		case rat(f).Cmp(bound) == 0:
			greatest++
		default:
			more++
		}
	}
	if none < 300 || due < 30 || more < 300 || greatest < 10 {
		t.Error(none, due, more, greatest)
	}
}

// isDue reports whether each number is what is due there.
func isDue(x table) bool {
	for i, row := range x {
		for j, n := range row {
			if dueAt(x, i, j).Cmp(whole(n)) != 0 {
				return false
			}
		}
	}
	return true
}

// P6.4
func TestOffErrors(t *testing.T) {
	eachNotTable(t, func(name string, x table) {
		if f, e := counts.Off(x); f != (api.Frac{}) || e != api.ErrArg {
			t.Errorf("%s: Off = %v, %v", name, f, e)
		}
	})
	for _, x := range []table{
		{{0}}, {{0, 0}, {0, 0}}, {{0, 0}, {1, 1}}, {{1, 1}, {0, 0}}, {{0, 1}, {0, 1}}, {{1, 0}, {1, 0}},
		{{1, 1, 1}, {0, 0, 0}, {1, 1, 1}}, {{1, 0, 1}, {2, 0, 2}}, {{3, 0}}, {{0}, {3}},
	} {
		if f, e := counts.Off(x); f != (api.Frac{}) || e != api.ErrState {
			t.Errorf("Off(%v) = %v, %v", x, f, e)
		}
	}
}

// P6.12
func TestTurning(t *testing.T) {
	for _, x := range someTables() {
		turn, _ := counts.Turn(x)
		keeps(t, x, turn)
		for i := range x {
			for j := range i {
				keeps(t, x, exchanged(x, i, j))
			}
		}
		for k := range x[0] {
			for l := range k {
				keeps(t, x, turned(exchanged(turned(x), k, l)))
			}
		}
	}
}

// keeps tests that y has the Chance, Tail and Off of x.
func keeps(t *testing.T, x, y table) {
	t.Helper()
	if c, d := chance(t, x), chance(t, y); c != d {
		t.Errorf("%v, %v: Chance %v, %v", x, y, c, d)
	}
	if c, d := tail(t, x), tail(t, y); c != d {
		t.Errorf("%v, %v: Tail %v, %v", x, y, c, d)
	}
	f, e := counts.Off(x)
	g, h := counts.Off(y)
	if f != g || e != h {
		t.Errorf("%v, %v: Off %v, %v and %v, %v", x, y, f, e, g, h)
	}
}
