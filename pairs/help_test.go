package pairs_test

import (
	"math"
	"slices"
	"testing"

	"congou/api"
	"congou/pairs"
)

// far are numbers that nothing has.
var far = []int{-1, -2, -5, 17, 64, 100, math.MaxInt, math.MaxInt - 1, math.MinInt, math.MinInt + 1}

// isRowOf tells by the words of the chapter whether a slice is a row with the
// shift s.
func isRowOf(s int, row []int) bool {
	n := len(row) / 2
	if n < 1 || n > 8 || len(row) != 2*n {
		return false
	}
	for k := 1; k <= n; k++ {
		var at []int
		for i, number := range row {
			if number == k {
				at = append(at, i)
			}
		}
		if len(at) != 2 || at[1] != at[0]+k+s-1 {
			return false
		}
	}
	return true
}

// rowsOf returns all rows of n, in order: the greatest numbers are laid first,
// which pack the others together.
func rowsOf(n, s int) [][]int {
	var list [][]int
	row := make([]int, 2*n)
	var lay func(k int)
	lay = func(k int) {
		if k == 0 {
			list = append(list, slices.Clone(row))
			return
		}
		for i := 0; i+k+s-1 < len(row); i++ {
			if row[i] == 0 && row[i+k+s-1] == 0 {
				row[i], row[i+k+s-1] = k, k
				lay(k - 1)
				row[i], row[i+k+s-1] = 0, 0
			}
		}
	}
	lay(n)
	slices.SortFunc(list, slices.Compare[[]int])
	return list
}

// eachRow calls f with all rows of all n, with both shifts.
func eachRow(f func(n, s int, row []int)) {
	for n := 1; n <= 8; n++ {
		for s := 1; s <= 2; s++ {
			for _, row := range rowsOf(n, s) {
				f(n, s, row)
			}
		}
	}
}

// eachSlice calls f with all slices of n numbers from low to high, in order. The
// memory is the same each time.
func eachSlice(n, low, high int, f func(list []int)) {
	list := make([]int, n)
	var fill func(i int)
	fill = func(i int) {
		if i == n {
			f(list)
			return
		}
		for k := low; k <= high; k++ {
			list[i] = k
			fill(i + 1)
		}
	}
	fill(0)
}

// permutations returns all permutations of the numbers from 0 to n - 1, in order.
func permutations(n int) [][]int {
	if n == 0 {
		return [][]int{nil}
	}
	var list [][]int
	for _, rest := range permutations(n - 1) {
		for i := range n {
			list = append(list, slices.Insert(slices.Clone(rest), i, n-1))
		}
	}
	slices.SortFunc(list, slices.Compare[[]int])
	return list
}

// isPinsOf tells by the words of the chapter whether a slice has pins.
func isPinsOf(l []int) bool {
	n := len(l)
	if n < 1 || n > 6 {
		return false
	}
	for k := range n {
		if slices.Index(l, k) < 0 {
			return false
		}
	}
	for i := range n {
		for j := i + 1; j < n; j++ {
			for k := range n {
				for m := k + 1; m < n; m++ {
					if (k != i || m != j) && m-k == j-i && l[m]-l[k] == l[j]-l[i] {
						return false
					}
				}
			}
		}
	}
	return true
}

// roundsOf are the rounds of 2 n players by the words of the chapter.
func roundsOf(n int) [][][2]int {
	last := 2*n - 1
	list := make([][][2]int, last)
	for r := range list {
		for a := range 2 * n {
			for b := a + 1; b < 2*n; b++ {
				meetsLast := a == r && b == last
				others := a != r && b != r && b != last && (a+b-2*r)%last == 0
				if meetsLast || others {
					list[r] = append(list[r], [2]int{a, b})
				}
			}
		}
	}
	return list
}

// areRoundsOf tells by the words of the chapter whether l are rounds of 2 n
// players.
func areRoundsOf(n int, l [][][2]int) bool {
	if len(l) != 2*n-1 {
		return false
	}
	var times [8][8]int
	for _, round := range l {
		if len(round) != n {
			return false
		}
		var comes [8]int
		for i, p := range round {
			if p[0] < 0 || p[0] >= p[1] || p[1] >= 2*n {
				return false
			}
			if i > 0 && slices.Compare(round[i-1][:], p[:]) >= 0 {
				return false
			}
			comes[p[0]]++
			comes[p[1]]++
			times[p[0]][p[1]]++
		}
		for player := range 2 * n {
			if comes[player] != 1 {
				return false
			}
		}
	}
	for a := range 2 * n {
		for b := a + 1; b < 2*n; b++ {
			if times[a][b] != 1 {
				return false
			}
		}
	}
	return true
}

// areThreesOf tells by the words of the chapter whether l are threes of v
// players.
func areThreesOf(v int, l [][3]int) bool {
	var times [9][9]int
	for i, t := range l {
		if t[0] < 0 || t[0] >= t[1] || t[1] >= t[2] || t[2] >= v {
			return false
		}
		if i > 0 && slices.Compare(l[i-1][:], t[:]) >= 0 {
			return false
		}
		times[t[0]][t[1]]++
		times[t[0]][t[2]]++
		times[t[1]][t[2]]++
	}
	for a := range v {
		for b := a + 1; b < v; b++ {
			if times[a][b] != 1 {
				return false
			}
		}
	}
	return true
}

// threesOf returns all threes of v players, in order. It begins with the last
// players.
func threesOf(v int) [][][3]int {
	var all [][][3]int
	var met [9][9]bool
	mark := func(t [3]int, is bool) {
		met[t[0]][t[1]], met[t[0]][t[2]], met[t[1]][t[2]] = is, is, is
		met[t[1]][t[0]], met[t[2]][t[0]], met[t[2]][t[1]] = is, is, is
	}
	var more func(list [][3]int)
	more = func(list [][3]int) {
		for a := v - 1; a >= 0; a-- {
			for b := a - 1; b >= 0; b-- {
				if met[a][b] {
					continue
				}
				for c := range v {
					if c == a || c == b || met[a][c] || met[b][c] {
						continue
					}
					t := [3]int{a, b, c}
					mark(t, true)
					slices.Sort(t[:])
					more(append(slices.Clone(list), t))
					mark(t, false)
				}
				return
			}
		}
		sortTriples(list)
		all = append(all, list)
	}
	more(nil)
	slices.SortFunc(all, compareThrees)
	return all
}

func compareTriples(s, t [3]int) int { return slices.Compare(s[:], t[:]) }

func comparePairs(p, q [2]int) int { return slices.Compare(p[:], q[:]) }

func compareThrees(k, l [][3]int) int { return slices.CompareFunc(k, l, compareTriples) }

func sortTriples(l [][3]int) { slices.SortFunc(l, compareTriples) }

// spreadsOf returns all spreads of threes by the words of the chapter.
func spreadsOf(v int, l [][3]int) [][]int {
	var list [][]int
	if v%3 != 0 {
		return nil
	}
	for set := range 1 << len(l) {
		var indices []int
		var comes [9]int
		for i, t := range l {
			if set>>i&1 == 1 {
				indices = append(indices, i)
				comes[t[0]]++
				comes[t[1]]++
				comes[t[2]]++
			}
		}
		if len(indices) == v/3 && !slices.ContainsFunc(comes[:v], func(n int) bool { return n != 1 }) {
			list = append(list, indices)
		}
	}
	slices.SortFunc(list, slices.Compare[[]int])
	return list
}

// renamedThrees returns threes with the players renamed, in order.
func renamedThrees(l [][3]int, to []int) [][3]int {
	var list [][3]int
	for _, t := range l {
		u := [3]int{to[t[0]], to[t[1]], to[t[2]]}
		slices.Sort(u[:])
		list = append(list, u)
	}
	sortTriples(list)
	return list
}

// renamedRounds returns rounds with the players renamed, each in order.
func renamedRounds(l [][][2]int, to []int) [][][2]int {
	list := make([][][2]int, len(l))
	for r, round := range l {
		for _, p := range round {
			a, b := to[p[0]], to[p[1]]
			list[r] = append(list[r], [2]int{min(a, b), max(a, b)})
		}
		slices.SortFunc(list[r], comparePairs)
	}
	return list
}

func cloneRounds(l [][][2]int) [][][2]int {
	list := make([][][2]int, len(l))
	for r, round := range l {
		list[r] = slices.Clone(round)
	}
	return list
}

func sameRounds(k, l [][][2]int) bool { return slices.EqualFunc(k, l, slices.Equal[[][2]int]) }

func sameLists(k, l [][]int) bool { return slices.EqualFunc(k, l, slices.Equal[[]int]) }

// spoil sets all elements of a slice, up to its capacity.
func spoil[T any](list []T, to T) {
	list = list[:cap(list)]
	for i := range list {
		list[i] = to
	}
}

// walk returns a function that gives numbers below its argument.
func walk(state uint32) func(n int) int {
	return func(n int) int {
		state = state*1664525 + 1013904223
		return int(state>>16) % n
	}
}

// backward returns a slice from its end on.
func backward(l []int) []int {
	list := slices.Clone(l)
	slices.Reverse(list)
	return list
}

// threes returns what must be there.
func threes(t *testing.T, v int) [][3]int {
	t.Helper()
	l, e := pairs.Threes(v)
	if e != api.OK {
		t.Fatalf("Threes(%v): %v", v, e)
	}
	return l
}

// rounds returns what must be there.
func rounds(t *testing.T, n int) [][][2]int {
	t.Helper()
	l, e := pairs.Rounds(n)
	if e != api.OK {
		t.Fatalf("Rounds(%v): %v", n, e)
	}
	return l
}

// pins returns what must be there.
func pins(t *testing.T, n int) [][]int {
	t.Helper()
	l, e := pairs.Pins(n)
	if e != api.OK {
		t.Fatalf("Pins(%v): %v", n, e)
	}
	return l
}
