package counts

import (
	"slices"

	"congou/api"
)

// Swap returns t after the swap of the rows i and j and the columns k and l.
func Swap(t [][]int, i, j, k, l int) ([][]int, api.Errno) {
	if !isTable(t) || !areTwo(i, j, len(t)) || !areTwo(k, l, len(t[0])) {
		return nil, api.ErrArg
	}
	after, ok := swapped(keyOf(t), i, j, k, l)
	if !ok {
		return nil, api.ErrNone
	}
	return tableOf(after, t), api.OK
}

// Path returns the fewest tables from s to t, each a swap of the one before it.
func Path(s, t [][]int) ([][][]int, api.Errno) {
	if !isTable(s) || !isTable(t) {
		return nil, api.ErrArg
	}
	if !isLike(s, t) || !haveSameSums(keyOf(s), keyOf(t)) {
		return nil, api.ErrNone
	}
	return tablesOf(path(keyOf(s), keyOf(t)), s), api.OK
}

// CheckPath reports whether l are tables from s to t, each a swap of the one
// before it.
func CheckPath(s, t [][]int, l [][][]int) (bool, api.Errno) {
	if !isTable(s) || !isTable(t) {
		return false, api.ErrArg
	}
	if len(l) == 0 || !isSame(l[0], s) || !isSame(l[len(l)-1], t) {
		return false, api.OK
	}
	for i, next := range l[1:] {
		if !isTable(next) || !isLike(next, s) || !slices.Contains(swaps(keyOf(l[i])), keyOf(next)) {
			return false, api.OK
		}
	}
	return true, api.OK
}

// areTwo reports whether a and b are two indices below n.
func areTwo(a, b, n int) bool { return a != b && min(a, b) >= 0 && max(a, b) < n }

func isSame(s, t [][]int) bool { return slices.EqualFunc(s, t, slices.Equal[[]int]) }

func haveSameSums(j, k key) bool {
	rows, columns := sums(j)
	otherRows, otherColumns := sums(k)
	return rows == otherRows && columns == otherColumns
}

// path returns a shortest path from one key to another one of its family. It
// searches from the end, as a swap can be taken back: so what is found keeps
// what comes next.
func path(from, to key) []key {
	next := map[key]key{to: to}
	found := []key{to}
search:
	for i := 0; i < len(found); i++ {
		for _, k := range swaps(found[i]) {
			if _, ok := next[k]; !ok {
				next[k] = found[i]
				found = append(found, k)
			}
			if k == from {
				break search
			}
		}
	}
	list := []key{from}
	for from != to {
		from = next[from]
		list = append(list, from)
	}
	return list
}

// swaps returns all that one swap makes of k. Each swap takes from both of its
// rows and of its columns, so none comes to a row or column that is missing.
func swaps(k key) []key {
	var list []key
	for i := range most {
		for j := range most {
			for c := range most {
				for d := range c {
					if after, ok := swapped(k, i, j, c, d); i != j && ok {
						list = append(list, after)
					}
				}
			}
		}
	}
	return list
}

// swapped returns k after a swap, and whether its numbers are from 0 on.
func swapped(k key, i, j, c, d int) (key, bool) {
	k[i][c]++
	k[j][d]++
	k[i][d]--
	k[j][c]--
	return k, k[i][d] >= 0 && k[j][c] >= 0
}
