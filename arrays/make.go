package arrays

import "congou/api"

// How many columns Least asks for, and how many choices Lines has.
const (
	fewestLeast = 2
	mostLeast   = 35
	fewestLines = 2
	mostLines   = 3
)

// Least returns the least number of rows.
func Least(k int) (int, api.Errno) {
	if !isWithin(k, fewestLeast, mostLeast) {
		return 0, api.ErrArg
	}
	return least(k), api.OK
}

// Make returns an array with that number.
func Make(k int) (Array, api.Errno) {
	if !isWithin(k, fewestLeast, mostColumns) {
		return Array{}, api.ErrArg
	}
	n := least(k)
	a := zeros(2, n, k)
	c := 0
	// the first row is not in the sets: it stays 0
	for set := range rising(n-1, n-n/2) {
		if c == k {
			break
		}
		for _, i := range set {
			a.Rows[i+1][c] = 1
		}
		c++
	}
	return a, api.OK
}

// Lines returns the array of lines.
func Lines(p int) (Array, api.Errno) {
	if !isWithin(p, fewestLines, mostLines) {
		return Array{}, api.ErrArg
	}
	a := zeros(p, p*p, p+1)
	for i := range p {
		for j := range p {
			row := a.Rows[i*p+j]
			for m := range p {
				row[m] = (i*m + j) % p
			}
			row[p] = i
		}
	}
	return a, api.OK
}

// Bound returns how many rows a fair array has at least.
func Bound(v, k, t int) (int, api.Errno) {
	if !isWithin(v, fewestChoices, mostChoices) || !isWithin(t, 1, mostTogether) || !isWithin(k, t, mostColumns) {
		return 0, api.ErrArg
	}
	switch t {
	case 1:
		return v, api.OK
	case 2:
		return 1 + k*(v-1), api.OK
	}
	return v * (1 + (k-1)*(v-1)), api.OK
}

func least(k int) int {
	n := 2
	for k > ways(n-1, n/2-1) {
		n++
	}
	return n
}

// ways returns the number of choices of r of n things.
func ways(n, r int) int {
	c := 1
	for i := range r {
		c = c * (n - i) / (i + 1)
	}
	return c
}

// zeros returns an array of n rows and k columns, all 0.
func zeros(v, n, k int) Array {
	a := Array{V: v, Rows: make([][]int, n)}
	for i := range a.Rows {
		a.Rows[i] = make([]int, k)
	}
	return a
}
