package counts_test

import (
	"slices"
	"testing"

	"congou/api"
	"congou/counts"
)

// P6.6
func TestOdds(t *testing.T) {
	tests := []struct {
		x    table
		want api.Frac
	}{
		{table{{3, 1}, {1, 3}}, frac(9, 1)},
		{table{{1, 3}, {3, 1}}, frac(1, 9)},
		{table{{2, 2}, {2, 2}}, frac(1, 1)},
		{table{{1, 2}, {3, 4}}, frac(2, 3)},
		{table{{0, 2}, {3, 4}}, frac(0, 1)},
		{table{{4, 2}, {3, 0}}, frac(0, 1)},
		{table{{0, 1}, {1, 0}}, frac(0, 1)},
		{table{{7, 1}, {1, 7}}, frac(49, 1)},
		{table{{6, 4}, {2, 3}}, frac(9, 4)},
	}
	for _, c := range tests {
		if f, e := counts.Odds(c.x); f != c.want || e != api.OK {
			t.Errorf("Odds(%v) = %v, %v", c.x, f, e)
		}
	}
}

// fourfolds returns tables of two rows and two columns: all up to a sum, and
// such as a fixed walk comes to.
func fourfolds(sum int) []table {
	list := []table{}
	for n := range sum + 1 {
		list = append(list, tablesOfSum(2, 2, n)...)
	}
	for _, x := range walkedTables(300, 2) {
		if isFourfold(x) {
			list = append(list, x)
		}
	}
	return list
}

// P6.6: the words of the chapter.
func TestOddsAll(t *testing.T) {
	for _, x := range fourfolds(10) {
		before := clone(x)
		f, e := counts.Odds(x)
		if want, ok := oddsOf(x); ok && (!isOddsOf(f, want) || e != api.OK) || !ok && (f != api.Frac{} || e != api.ErrState) {
			t.Fatalf("Odds(%v) = %v, %v", x, f, e)
		}
		if !isSame(x, before) {
			t.Fatalf("%v became %v", before, x)
		}
	}
}

// oddsOf returns both products, and whether the second one may divide.
func oddsOf(x table) ([2]int, bool) {
	return [2]int{x[0][0] * x[1][1], x[0][1] * x[1][0]}, x[0][1] != 0 && x[1][0] != 0
}

// isOddsOf reports whether f is in lowest terms and is the quotient of both.
func isOddsOf(f api.Frac, products [2]int) bool {
	return f.Den >= 1 && f.Num*products[1] == f.Den*products[0] && isExact(f, rat(f))
}

// P6.13
func TestOddsExchanged(t *testing.T) {
	both := 0
	for _, x := range fourfolds(9) {
		f, e := counts.Odds(x)
		all, h := counts.Odds(table{{x[1][1], x[1][0]}, {x[0][1], x[0][0]}})
		if all != f || h != e {
			t.Fatalf("Odds(%v) = %v, %v; with both exchanged %v, %v", x, f, e, all, h)
		}
		g, h := counts.Odds(exchanged(x, 0, 1))
		if e == api.OK && h == api.OK {
			both++
			if g != frac(f.Den, f.Num) {
				t.Fatalf("Odds(%v) = %v; with rows exchanged %v", x, f, g)
			}
		}
	}
	if both < 100 {
		t.Error(both)
	}
}

// P6.6
func TestOddsErrors(t *testing.T) {
	eachNotTable(t, func(name string, x table) {
		if f, e := counts.Odds(x); f != (api.Frac{}) || e != api.ErrArg {
			t.Errorf("%s: Odds = %v, %v", name, f, e)
		}
	})
	for _, x := range append(notFourfold(), table{{0, 0}}, table{{0}, {0}}, table{{0, 0, 0}, {0, 0, 0}}) {
		if f, e := counts.Odds(x); f != (api.Frac{}) || e != api.ErrArg {
			t.Errorf("Odds(%v) = %v, %v", x, f, e)
		}
	}
	for _, x := range []table{{{1, 0}, {1, 1}}, {{1, 1}, {0, 1}}, {{0, 0}, {0, 0}}, {{8, 0}, {0, 8}}, {{0, 0}, {16, 0}}} {
		if f, e := counts.Odds(x); f != (api.Frac{}) || e != api.ErrState {
			t.Errorf("Odds(%v) = %v, %v", x, f, e)
		}
	}
}

// P6.7
func TestHidden(t *testing.T) {
	tests := []struct {
		s, t table
		want bool
	}{
		{table{{0, 1}, {1, 3}}, table{{3, 1}, {1, 0}}, true},
		{table{{0, 1}, {1, 4}}, table{{3, 1}, {2, 0}}, true},
		{table{{0, 1}, {1, 2}}, table{{2, 1}, {1, 0}}, false}, // the sum has the odds 1
		{table{{3, 1}, {1, 3}}, table{{2, 1}, {1, 2}}, false}, // all above
		{table{{1, 3}, {3, 1}}, table{{1, 2}, {2, 1}}, false}, // all below
		{table{{1, 1}, {1, 1}}, table{{1, 1}, {1, 1}}, false}, // all 1
		{table{{3, 1}, {1, 1}}, table{{1, 2}, {2, 1}}, false}, // one above, one below
		{table{{1, 1}, {1, 1}}, table{{1, 2}, {2, 1}}, false}, // one 1
		{table{{0, 1}, {1, 0}}, table{{0, 2}, {2, 0}}, false}, // all 0
		{table{{0, 1}, {3, 1}}, table{{2, 1}, {1, 0}}, false}, // both 0, and both 1
	}
	for _, c := range tests {
		want := c.want
		if want != isHidden(c.s, c.t) {
			t.Errorf("%v, %v: not %v", c.s, c.t, want)
		}
		if ok, e := counts.Hidden(c.s, c.t); ok != want || e != api.OK {
			t.Errorf("Hidden(%v, %v) = %v, %v", c.s, c.t, ok, e)
		}
	}
}

// sign tells whether the odds of x, with nothing divided, are above 1 or below.
func sign(x table) int {
	p, _ := oddsOf(x)
	return slices.Compare(p[:1], p[1:])
}

func sumOf(s, x table) table {
	return table{{s[0][0] + x[0][0], s[0][1] + x[0][1]}, {s[1][0] + x[1][0], s[1][1] + x[1][1]}}
}

// isHidden is Hidden by the words of the chapter.
func isHidden(s, x table) bool {
	a, b, both := sign(s), sign(x), sign(sumOf(s, x))
	return a > 0 && b > 0 && both < 0 || a < 0 && b < 0 && both > 0
}

// P6.7: the words of the chapter.
func TestHiddenAll(t *testing.T) {
	list := fourfolds(7)
	hidden, ok, state := 0, 0, 0
	for _, s := range list {
		for _, x := range list {
			got, e := counts.Hidden(s, x)
			_, first := oddsOf(s)
			_, second := oddsOf(x)
			rows, _ := sumsOf(sumOf(s, x))
			if !first || !second || total(rows) > 16 {
				state++
				if got || e != api.ErrState {
					t.Fatalf("Hidden(%v, %v) = %v, %v", s, x, got, e)
				}
				continue
			}
			if got != isHidden(s, x) || e != api.OK {
				t.Fatalf("Hidden(%v, %v) = %v, %v", s, x, got, e)
			}
			ok++
			if got { // both are below 1: tables with both above 1 are too small for it
				hidden++
			}
		}
	}
	if hidden < 200 || ok < 10000 || state < 10000 {
		t.Error(hidden, ok, state)
	}
}

// P6.7
func TestHiddenErrors(t *testing.T) {
	one, none := table{{1, 1}, {1, 1}}, table{{1, 0}, {1, 1}}
	full := table{{4, 4}, {4, 4}}
	eachNotTable(t, func(name string, x table) {
		for _, other := range []table{one, none, full, x} {
			if ok, e := counts.Hidden(x, other); ok || e != api.ErrArg {
				t.Errorf("%s: Hidden(_, %v) = %v, %v", name, other, ok, e)
			}
			if ok, e := counts.Hidden(other, x); ok || e != api.ErrArg {
				t.Errorf("%s: Hidden(%v, _) = %v, %v", name, other, ok, e)
			}
		}
	})
	for _, x := range notFourfold() {
		for _, other := range []table{one, none, full, x} {
			if ok, e := counts.Hidden(x, other); ok || e != api.ErrArg {
				t.Errorf("Hidden(%v, %v) = %v, %v", x, other, ok, e)
			}
			if ok, e := counts.Hidden(other, x); ok || e != api.ErrArg {
				t.Errorf("Hidden(%v, %v) = %v, %v", other, x, ok, e)
			}
		}
	}
	tests := []struct{ s, t table }{
		{none, one}, {table{{1, 1}, {0, 1}}, one},
		{none, table{{1, 1}, {0, 1}}}, // the sum has odds
		{full, one}, {full, full}, {table{{0, 0}, {0, 0}}, table{{0, 0}, {0, 0}}},
	}
	for _, c := range tests {
		for _, pair := range [][2]table{{c.s, c.t}, {c.t, c.s}} {
			if ok, e := counts.Hidden(pair[0], pair[1]); ok || e != api.ErrState {
				t.Errorf("Hidden(%v, %v) = %v, %v", pair[0], pair[1], ok, e)
			}
		}
	}
}
