package arrays_test

import (
	"fmt"
	"math"
	"math/bits"
	"slices"
	"testing"

	"congou/api"
	"congou/arrays"
)

type array = arrays.Array

// far are numbers that nothing has.
var far = []int{-1, -2, -8, 36, 64, 1000, 1 << 32, math.MaxInt, math.MaxInt - 1, math.MinInt, math.MinInt + 1}

// notTogether are no t of any Array.
var notTogether = append([]int{0, 4, 5, 8}, far...)

// columnsOf returns the sets of t of k columns, as rising slices, in order.
func columnsOf(k, t int) [][]int {
	var list [][]int
	for set := range 1 << k {
		if bits.OnesCount(uint(set)) != t {
			continue
		}
		var columns []int
		for c := range k {
			if set>>c&1 == 1 {
				columns = append(columns, c)
			}
		}
		list = append(list, columns)
	}
	slices.SortFunc(list, slices.Compare[[]int])
	return list
}

// power returns v to the t.
func power(v, t int) int {
	n := 1
	for range t {
		n *= v
	}
	return n
}

// number returns the choices of a row in these columns as the digits of a number.
func number(v int, row, columns []int) int {
	n := 0
	for _, c := range columns {
		n = n*v + row[c]
	}
	return n
}

// digits returns a number as t choices.
func digits(v, t, n int) []int {
	list := make([]int, t)
	for i := t - 1; i >= 0; i-- {
		list[i] = n % v
		n /= v
	}
	return list
}

// timesOf tells by the words of the chapter how often each choice of some columns
// comes.
func timesOf(a array, columns []int) []int {
	times := make([]int, power(a.V, len(columns)))
	for _, row := range a.Rows {
		times[number(a.V, row, columns)]++
	}
	return times
}

func coversOf(a array, t int) bool { return len(missingOf(a, t)) == 0 }

// missingOf is what does not come, by the words of the chapter.
func missingOf(a array, t int) [][]int {
	var list [][]int
	for _, columns := range columnsOf(len(a.Rows[0]), t) {
		for n, times := range timesOf(a, columns) {
			if times == 0 {
				list = append(list, slices.Concat(columns, digits(a.V, t, n)))
			}
		}
	}
	return list
}

// indexOf is how often each choice of t columns comes, by the words of the
// chapter; 0 if the Array is not fair for t.
func indexOf(a array, t int) int {
	index := -1
	for _, columns := range columnsOf(len(a.Rows[0]), t) {
		for _, times := range timesOf(a, columns) {
			if index < 0 {
				index = times
			}
			if times != index {
				return 0
			}
		}
	}
	return index
}

// gainOf is how many choices of t columns come with this row that did not.
func gainOf(a array, t int, row []int) int {
	n := 0
	for _, columns := range columnsOf(len(row), t) {
		if timesOf(a, columns)[number(a.V, row, columns)] == 0 {
			n++
		}
	}
	return n
}

// addOf is the row that Add finds, by the words of the chapter.
func addOf(a array, t int) []int {
	k := len(a.Rows[0])
	var best []int
	for n := power(a.V, k) - 1; n >= 0; n-- {
		row := digits(a.V, k, n)
		if best == nil || gainOf(a, t, row) >= gainOf(a, t, best) {
			best = row
		}
	}
	return best
}

// distanceOf is the distance of an Array of some rows, by the words of the
// chapter.
func distanceOf(a array) int {
	least := math.MaxInt
	for i, s := range a.Rows {
		for j, t := range a.Rows {
			if i == j {
				continue
			}
			n := 0
			for c, x := range s {
				if x != t[c] {
					n++
				}
			}
			least = min(least, n)
		}
	}
	return least
}

// arrayOf returns the Array whose rows are these numbers.
func arrayOf(v, k int, numbers ...int) array {
	a := array{V: v}
	for _, n := range numbers {
		a.Rows = append(a.Rows, digits(v, k, n))
	}
	return a
}

// withRows returns the Array of n rows and k columns that has the digits of a
// number.
func withRows(v, n, k, all int) array {
	a := array{V: v}
	for row := range slices.Chunk(digits(v, n*k, all), k) {
		a.Rows = append(a.Rows, slices.Clone(row))
	}
	return a
}

// eachSmall calls f with all Arrays of few rows and columns.
func eachSmall(f func(a array)) {
	for _, size := range []struct{ v, n, k int }{
		{2, 1, 1}, {2, 2, 1}, {2, 3, 1}, {2, 4, 1}, {2, 1, 2}, {2, 2, 2}, {2, 3, 2}, {2, 4, 2}, {2, 5, 2},
		{2, 1, 3}, {2, 2, 3}, {2, 3, 3}, {2, 4, 3}, {3, 1, 1}, {3, 2, 1}, {3, 3, 1}, {3, 4, 1}, {3, 3, 2},
		{4, 1, 1}, {4, 2, 1}, {4, 4, 1}, {4, 2, 2},
	} {
		for all := range power(size.v, size.n*size.k) {
			f(withRows(size.v, size.n, size.k, all))
		}
	}
}

// eachMixed calls f with Arrays of all sizes there may be.
func eachMixed(f func(a array)) {
	next := walk(1)
	for v := 2; v <= 4; v++ {
		for n := 1; n <= 16; n++ {
			for k := 1; k <= 8; k++ {
				a := array{V: v}
				for range n {
					row := make([]int, k)
					for c := range row {
						row[c] = next(v)
					}
					a.Rows = append(a.Rows, row)
				}
				f(a)
			}
		}
	}
}

// fairArrays are some that are fair for more than one column, with the greatest t,
// up to 3, for which they are.
func fairArrays() []struct {
	a array
	t int
} {
	squares4 := array{V: 4}
	times := [4][4]int{{}, {0, 1, 2, 3}, {0, 2, 3, 1}, {0, 3, 1, 2}}
	for i := range 4 {
		for j := range 4 {
			squares4.Rows = append(squares4.Rows, []int{i, j, i ^ j, times[2][i] ^ j, times[3][i] ^ j})
		}
	}
	cubes, even := array{V: 2}, array{V: 2}
	for n := range 16 {
		x := digits(2, 4, n)
		cubes.Rows = append(cubes.Rows, []int{
			x[0], x[1], x[2], x[3], x[0] ^ x[1] ^ x[2], x[0] ^ x[1] ^ x[3], x[0] ^ x[2] ^ x[3], x[1] ^ x[2] ^ x[3],
		})
		even.Rows = append(even.Rows, append(x, x[0]^x[1]^x[2]^x[3]))
	}
	return []struct {
		a array
		t int
	}{
		{arrayOf(2, 2, 0, 1, 2, 3), 2},
		{arrayOf(2, 2, 3, 0, 1, 2, 2, 1, 0, 3), 2},
		{arrayOf(2, 3, 0, 3, 5, 6), 2},
		{arrayOf(2, 3, 7, 4, 2, 1), 2},
		{arrayOf(2, 3, 0, 1, 2, 3, 4, 5, 6, 7), 3},
		{arrayOf(2, 3, 0, 3, 5, 6, 0, 3, 5, 6), 2},
		{arrayOf(2, 4, 0, 3, 5, 6, 9, 10, 12, 15), 3},
		{arrayOf(3, 2, 0, 1, 2, 3, 4, 5, 6, 7, 8), 2},
		{arrayOf(3, 3, 0, 4, 8, 10, 14, 15, 20, 21, 25), 2},
		{arrayOf(4, 2, 0, 1, 2, 3, 4, 5, 6, 7, 8, 9, 10, 11, 12, 13, 14, 15), 2},
		{arrayOf(2, 4, 0, 1, 2, 3, 4, 5, 6, 7, 8, 9, 10, 11, 12, 13, 14, 15), 3},
		{squares4, 2}, {cubes, 3}, {even, 3},
	}
}

// eachArray calls f with small, mixed and fair Arrays.
func eachArray(f func(a array)) {
	eachSmall(f)
	eachMixed(f)
	for _, c := range fairArrays() {
		f(c.a)
	}
}

// notArrays are what is no Array, each for one reason.
func notArrays() []array {
	good := arrayOf(2, 3, 0, 3, 5, 6)
	list := []array{
		{}, {V: 2}, {V: 2, Rows: [][]int{}}, {V: 2, Rows: [][]int{nil}}, {V: 2, Rows: [][]int{{}, {}}},
		{V: 2, Rows: [][]int{{0, 1}, {0}}}, {V: 2, Rows: [][]int{{0}, {0, 1}}}, {V: 2, Rows: [][]int{{0, 1}, nil}},
		{V: 2, Rows: [][]int{nil, {0, 1}}}, {V: 2, Rows: make([][]int, 16)}, {V: 2, Rows: make([][]int, 1000)},
		{V: 2, Rows: [][]int{make([]int, 9)}}, {V: 2, Rows: [][]int{make([]int, 100000)}},
		{V: 2, Rows: slices.Repeat([][]int{{0, 1}}, 17)}, {V: 4, Rows: slices.Repeat([][]int{{0, 1}}, 100000)},
	}
	for _, v := range append([]int{0, 1, 5, 6, 8}, far...) {
		list = append(list, array{V: v, Rows: good.Rows}, array{V: v, Rows: [][]int{{0}}}, array{V: v})
	}
	for v := 2; v <= 4; v++ {
		for _, x := range append([]int{v, v + 1}, far...) {
			list = append(list, array{V: v, Rows: [][]int{{x}}})
			list = append(list, array{V: v, Rows: [][]int{{0, 1}, {1, x}}})
			list = append(list, array{V: v, Rows: [][]int{{0, 1, 1}, {x, 0, 1}, {1, 1, 0}}})
		}
	}
	return list
}

func copied(a array) array {
	rows := slices.Clone(a.Rows)
	for i, row := range rows {
		rows[i] = slices.Clone(row)
	}
	return array{V: a.V, Rows: rows}
}

func same(a, b array) bool {
	return a.V == b.V && slices.EqualFunc(a.Rows, b.Rows, slices.Equal[[]int])
}

func sameLists(k, l [][]int) bool { return slices.EqualFunc(k, l, slices.Equal[[]int]) }

// isZero reports whether an Array is the zero value.
func isZero(a array) bool { return a.V == 0 && len(a.Rows) == 0 }

// isValid tells by the words of the chapter whether this is an Array.
func isValid(a array) bool {
	if a.V < 2 || a.V > 4 || len(a.Rows) < 1 || len(a.Rows) > 16 {
		return false
	}
	for _, row := range a.Rows {
		if len(row) < 1 || len(row) > 8 || len(row) != len(a.Rows[0]) {
			return false
		}
		for _, x := range row {
			if x < 0 || x >= a.V {
				return false
			}
		}
	}
	return true
}

// keeps checks that f changes none of these Arrays.
func keeps(t *testing.T, f func(), list ...array) {
	t.Helper()
	before := make([]array, len(list))
	for i, a := range list {
		before[i] = copied(a)
	}
	f()
	for i, a := range list {
		if !same(a, before[i]) {
			t.Fatalf("%v became %v", before[i], a)
		}
	}
}

// spoil sets all numbers of an Array, and what lies behind them.
func spoil(a array) {
	rows := a.Rows[:cap(a.Rows)]
	for _, row := range rows {
		row = row[:cap(row)]
		for c := range row {
			row[c] = -7
		}
	}
	clear(rows)
}

// isApart checks that a result shares no memory with these Arrays, and no row of
// it with another.
func isApart(t *testing.T, result array, list ...array) {
	t.Helper()
	for i, row := range result.Rows {
		before := copied(result)
		row = row[:cap(row)]
		for c := range row {
			row[c] -= 7
		}
		for j, other := range result.Rows {
			if j != i && !slices.Equal(other, before.Rows[j]) {
				t.Fatalf("%v: rows %v and %v share memory", before, i, j)
			}
		}
	}
	keeps(t, func() { spoil(result) }, list...)
}

// walk returns a function that gives numbers below its argument.
func walk(state uint32) func(n int) int {
	return func(n int) int {
		state = state*1664525 + 1013904223
		return int(state>>16) % n
	}
}

// permutations returns all permutations of the numbers from 0 to n - 1.
func permutations(n int) [][]int {
	if n == 0 {
		return [][]int{nil}
	}
	var list [][]int
	for _, rest := range permutations(n - 1) {
		for i := range n {
			list = append(list, slices.Insert(slices.Clone(rest), i, n-1))
		}
	}
	return list
}

// strength returns what must be there.
func strength(t *testing.T, a array) int {
	t.Helper()
	n, e := arrays.Strength(a)
	if e != api.OK {
		t.Fatalf("Strength(%v): %v", a, e)
	}
	return n
}

// covered returns up to how many columns an Array covers, which it says itself.
func covered(t *testing.T, a array) int {
	t.Helper()
	for n := min(3, len(a.Rows[0])); n > 0; n-- {
		ok, e := arrays.Covers(a, n)
		if e != api.OK {
			t.Fatalf("Covers(%v, %v): %v", a, n, e)
		}
		if ok {
			return n
		}
	}
	return 0
}

// P9.1: the Arrays of the tests are some, and the others are none.
func TestHelp(t *testing.T) {
	eachArray(func(a array) {
		if !isValid(a) {
			t.Fatal(a)
		}
	})
	for _, a := range notArrays() {
		if isValid(a) {
			t.Fatal(a)
		}
	}
	if got := fmt.Sprint(columnsOf(4, 2)); got != "[[0 1] [0 2] [0 3] [1 2] [1 3] [2 3]]" {
		t.Error(got)
	}
}
