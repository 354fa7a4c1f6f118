package counts_test

import (
	"math"
	"math/big"
	"slices"
	"testing"

	"congou/api"
	"congou/counts"
)

type table = [][]int

func frac(num, den int) api.Frac { return api.Frac{Num: num, Den: den} }

func rat(f api.Frac) *big.Rat { return big.NewRat(int64(f.Num), int64(f.Den)) }

func whole(n int) *big.Rat { return big.NewRat(int64(n), 1) }

// isExact reports whether f is the valid Frac with the value r.
func isExact(f api.Frac, r *big.Rat) bool {
	return r.Num().IsInt64() && r.Denom().IsInt64() && int64(f.Num) == r.Num().Int64() && int64(f.Den) == r.Denom().Int64()
}

func isSame(s, t table) bool { return slices.EqualFunc(s, t, slices.Equal[[]int]) }

func areSame(l, m []table) bool { return slices.EqualFunc(l, m, isSame) }

// compare is the order of tables: row by row.
func compare(s, t table) int { return slices.CompareFunc(s, t, slices.Compare[[]int]) }

func clone(t table) table {
	if t == nil {
		return nil
	}
	c := make(table, len(t))
	for i, row := range t {
		c[i] = slices.Clone(row)
	}
	return c
}

func cloneAll(l []table) []table {
	var c []table
	for _, t := range l {
		c = append(c, clone(t))
	}
	return c
}

// spoil changes all numbers of t, up to the capacity of its rows.
func spoil(t table) {
	for _, row := range t {
		row = row[:cap(row)]
		for j := range row {
			row[j] = -7
		}
	}
}

func total(list []int) int {
	sum := 0
	for _, n := range list {
		sum += n
	}
	return sum
}

// sumsOf are the sums by the words of the chapter.
func sumsOf(t table) (rows, columns []int) {
	columns = make([]int, len(t[0]))
	for _, row := range t {
		rows = append(rows, total(row))
		for j, n := range row {
			columns[j] += n
		}
	}
	return rows, columns
}

// fits reports whether t has these sums.
func fits(t table, rows, columns []int) bool {
	r, c := sumsOf(t)
	return slices.Equal(r, rows) && slices.Equal(c, columns)
}

// tablesWith returns all tables with these sums, in order: number after number,
// each from 0 to what its row and its column leave.
func tablesWith(rows, columns []int) []table {
	var list []table
	t := make(table, len(rows))
	for i := range t {
		t[i] = make([]int, len(columns))
	}
	var fill func(cell int)
	fill = func(cell int) {
		if cell == len(rows)*len(columns) {
			if fits(t, rows, columns) {
				list = append(list, clone(t))
			}
			return
		}
		i, j := cell/len(columns), cell%len(columns)
		r, c := sumsOf(t)
		for n := 0; n <= min(rows[i]-r[i], columns[j]-c[j]); n++ {
			t[i][j] = n
			fill(cell + 1)
		}
		t[i][j] = 0
	}
	fill(0)
	return list
}

// familyOf is the family of t, by the words of the chapter.
func familyOf(t table) []table {
	rows, columns := sumsOf(t)
	return tablesWith(rows, columns)
}

func factorial(n int) *big.Rat {
	return new(big.Rat).SetInt(new(big.Int).MulRange(1, int64(n)))
}

// chanceOf is the chance by the words of the chapter.
func chanceOf(t table) *big.Rat {
	rows, columns := sumsOf(t)
	chance := whole(1)
	for _, sum := range slices.Concat(rows, columns) {
		chance.Mul(chance, factorial(sum))
	}
	chance.Quo(chance, factorial(total(rows)))
	for _, n := range slices.Concat(t...) {
		chance.Quo(chance, factorial(n))
	}
	return chance
}

// tailOf is the tail by the words of the chapter.
func tailOf(t table) *big.Rat {
	sum, chance := whole(0), chanceOf(t)
	for _, other := range familyOf(t) {
		if c := chanceOf(other); c.Cmp(chance) <= 0 {
			sum.Add(sum, c)
		}
	}
	return sum
}

// dueAt is what is due at (i, j), where the sum of all is not 0.
func dueAt(t table, i, j int) *big.Rat {
	rows, columns := sumsOf(t)
	return big.NewRat(int64(rows[i]*columns[j]), int64(total(rows)))
}

// offOf is Off by the words of the chapter, where no sum is 0.
func offOf(t table) *big.Rat {
	sum := whole(0)
	for i, row := range t {
		for j, n := range row {
			due := dueAt(t, i, j)
			less := new(big.Rat).Sub(whole(n), due)
			less.Mul(less, less)
			sum.Add(sum, less.Quo(less, due))
		}
	}
	return sum
}

// hasZeroSum reports whether a sum of a row or column is 0.
func hasZeroSum(t table) bool {
	rows, columns := sumsOf(t)
	return slices.Contains(slices.Concat(rows, columns), 0)
}

// swapOf is the swap by the words of the chapter, for two rows and columns.
func swapOf(t table, i, j, k, l int) (table, bool) {
	s := clone(t)
	s[i][k]++
	s[j][l]++
	s[i][l]--
	s[j][k]--
	return s, s[i][l] >= 0 && s[j][k] >= 0
}

// eachSwap calls f with all pairs of two rows and of two columns, other ones.
func eachSwap(t table, f func(i, j, k, l int)) {
	for i := range t {
		for j := range t {
			for k := range t[0] {
				for l := range t[0] {
					if i != j && k != l {
						f(i, j, k, l)
					}
				}
			}
		}
	}
}

func isSwap(s, t table) bool {
	found := false
	eachSwap(s, func(i, j, k, l int) {
		after, ok := swapOf(s, i, j, k, l)
		found = found || ok && isSame(after, t)
	})
	return found
}

// exchanged returns t with two rows exchanged.
func exchanged(t table, i, j int) table {
	s := clone(t)
	s[i], s[j] = s[j], s[i]
	return s
}

func turned(t table) table {
	s := make(table, len(t[0]))
	for j := range s {
		for i := range t {
			s[j] = append(s[j], t[i][j])
		}
	}
	return s
}

func isFourfold(t table) bool { return len(t) == 2 && len(t[0]) == 2 }

// tablesOfSum returns all tables of this form with this sum of all.
func tablesOfSum(rows, columns, sum int) []table {
	var list []table
	for _, r := range listsOfSum(rows, sum) {
		for _, c := range listsOfSum(columns, sum) {
			list = append(list, tablesWith(r, c)...)
		}
	}
	return list
}

// listsOfSum returns all lists of n numbers from 0 on with this sum.
func listsOfSum(n, sum int) [][]int {
	if n == 1 {
		return [][]int{{sum}}
	}
	var lists [][]int
	for first := range sum + 1 {
		for _, rest := range listsOfSum(n-1, sum-first) {
			lists = append(lists, append([]int{first}, rest...))
		}
	}
	return lists
}

// smallTables returns all tables with a small sum of all, of all forms.
func smallTables() []table {
	var list []table
	for rows := 1; rows <= 3; rows++ {
		for columns := 1; columns <= 3; columns++ {
			for sum := range []int{9, 7, 6, 6, 5, 4, 4, 4, 4}[rows*columns-1] {
				list = append(list, tablesOfSum(rows, columns, sum)...)
			}
		}
	}
	return list
}

// someTables are tables of all kinds, and such as a fixed walk comes to.
func someTables() []table {
	list := []table{
		{{3, 1}, {1, 3}},
		{{1, 0}, {0, 1}},
		{{0}}, {{16}}, {{16, 0}}, {{0}, {16}}, {{16, 0, 0}, {0, 0, 0}, {0, 0, 0}},
		{{0, 0, 0}, {0, 0, 0}, {0, 0, 0}},
		{{8, 0}, {0, 8}}, {{4, 4}, {4, 4}}, {{0, 8}, {8, 0}},
		{{6, 0, 0}, {0, 5, 0}, {0, 0, 5}},
		{{0, 0, 5}, {0, 6, 0}, {5, 0, 0}},
		{{2, 2, 2}, {2, 2, 2}, {1, 1, 2}},
		{{1, 1, 1}, {1, 1, 1}, {1, 1, 1}},
		{{1, 2, 3}, {2, 4, 4}}, {{1, 2, 3}, {2, 4, 3}}, // due is a whole number, or not
		{{0, 0, 1}, {1, 0, 0}, {0, 1, 0}},
		{{5, 5, 6}}, {{5}, {5}, {6}},
	}
	return slices.Concat(list, walkedTables(100, 1), walkedTables(60, 2))
}

// walkedTables returns n tables that a fixed walk comes to, with at least this
// number of rows and columns.
func walkedTables(n, least int) []table {
	next := walk(uint32(31 + least))
	var list []table
	for range n {
		rows, columns := least+next(4-least), least+next(4-least)
		t := make(table, rows)
		for i := range t {
			t[i] = make([]int, columns)
		}
		for range next(17) {
			t[next(rows)][next(columns)]++
		}
		list = append(list, t)
	}
	return list
}

// walk returns a function that gives numbers below its argument.
func walk(state uint32) func(n int) int {
	return func(n int) int {
		state = state*1664525 + 1013904223
		return int(state>>16) % n
	}
}

// notTables are slices that are no tables.
func notTables() map[string]table {
	return map[string]table{
		"nil":                nil,
		"empty":              {},
		"no columns":         {{}, {}},
		"a nil row":          {nil},
		"four rows":          {{1}, {1}, {1}, {1}},
		"four columns":       {{1, 1, 1, 1}},
		"many rows":          make(table, 10000),
		"many columns":       {make([]int, 10000)},
		"uneven":             {{1, 2}, {1}},
		"uneven the other":   {{1}, {1, 2}},
		"one row empty":      {{1, 2}, {}},
		"-1":                 {{1, 2}, {3, -1}},
		"-1 at the front":    {{-1, 2}, {3, 1}},
		"-1 that leaves 16":  {{-1, 17}, {0, 0}},
		"17":                 {{17}},
		"17 in a row":        {{9, 8}, {0, 0}},
		"17 in a column":     {{9, 0}, {8, 0}},
		"17 in all":          {{4, 4}, {4, 5}},
		"17 in three":        {{2, 2, 2}, {2, 2, 2}, {2, 2, 1}},
		"the greatest":       {{math.MaxInt, 1}, {1, 1}},
		"twice the greatest": {{math.MaxInt, math.MaxInt}, {2, 1}},
		"the least":          {{1, math.MinInt}, {1, 1}},
		"around":             {{math.MaxInt, math.MaxInt}, {1, 1}},
		"the least twice":    {{math.MinInt, math.MinInt}, {1, 1}},
	}
}

// eachNotTable calls f with what are no tables, and a copy must stay.
func eachNotTable(t *testing.T, f func(name string, x table)) {
	t.Helper()
	for name, x := range notTables() {
		before := clone(x)
		f(name, x)
		if !isSame(x, before) {
			t.Errorf("%s: %v became %v", name, before, x)
		}
	}
}

// notFourfold are tables of other forms than two rows and two columns.
func notFourfold() []table {
	return []table{
		{{1}}, {{1, 1}}, {{1}, {1}}, {{1, 1, 1}}, {{1}, {1}, {1}},
		{{1, 1, 1}, {1, 1, 1}}, {{1, 1}, {1, 1}, {1, 1}}, {{1, 1, 1}, {1, 1, 1}, {1, 1, 1}},
	}
}

// chance, tail and off return what must be there.
func chance(t *testing.T, x table) api.Frac {
	t.Helper()
	f, e := counts.Chance(x)
	if e != api.OK {
		t.Fatalf("Chance(%v): %v", x, e)
	}
	return f
}

func tail(t *testing.T, x table) api.Frac {
	t.Helper()
	f, e := counts.Tail(x)
	if e != api.OK {
		t.Fatalf("Tail(%v): %v", x, e)
	}
	return f
}

func family(t *testing.T, x table) []table {
	t.Helper()
	l, e := counts.Family(x)
	if e != api.OK {
		t.Fatalf("Family(%v): %v", x, e)
	}
	return l
}
