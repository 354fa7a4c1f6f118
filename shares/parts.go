package shares

import (
	"slices"

	"congou/api"
)

const maxSum = 12

// Meet returns the most uneven parts that are at most as uneven as a and b.
func Meet(a, b []int) ([]int, api.Errno) {
	if !areOfOneSum(a, b) {
		return nil, api.ErrArg
	}
	return meet(a, b), api.OK
}

// Join returns the least uneven parts that are at least as uneven as a and b.
// As to turn parts over turns the order over, it is a Meet seen from behind.
func Join(a, b []int) ([]int, api.Errno) {
	if !areOfOneSum(a, b) {
		return nil, api.ErrArg
	}
	return turn(meet(turn(a), turn(b))), api.OK
}

// Turn returns the parts whose i-th number is how many numbers of a are above i.
func Turn(a []int) ([]int, api.Errno) {
	if sumOfParts(a) == 0 {
		return nil, api.ErrArg
	}
	return turn(a), api.OK
}

// Below returns all parts that a is next above of, falling.
func Below(a []int) ([][]int, api.Errno) {
	if sumOfParts(a) == 0 {
		return nil, api.ErrArg
	}
	var list [][]int
	// A later number that gives leaves greater parts, so they come out falling.
	for from := len(a) - 1; from >= 0; from-- {
		if b := stepDown(a, from); b != nil {
			list = append(list, b)
		}
	}
	return list, api.OK
}

// sumOfParts returns n if a are parts of n, else 0.
func sumOfParts(a []int) int {
	if !isFalling(a) {
		return 0
	}
	sum := 0
	for _, v := range a {
		if v < 1 || v > maxSum-sum {
			return 0
		}
		sum += v
	}
	return sum
}

func areOfOneSum(a, b []int) bool {
	n := sumOfParts(a)
	return n != 0 && sumOfParts(b) == n
}

// meet returns the parts whose first k numbers, for each k, sum to the lesser
// one of the sums of the first k of a and of b, both parts of one n. These sums
// grow by less and less, as those of a and of b do, so the parts are falling.
func meet(a, b []int) []int {
	var out []int
	sumA, sumB, before := 0, 0, 0
	for i := range max(len(a), len(b)) {
		sumA += at(a, i)
		sumB += at(b, i)
		out = append(out, min(sumA, sumB)-before)
		before = min(sumA, sumB)
	}
	return out
}

// at returns a[i], or 0 behind the end of a.
func at(a []int, i int) int {
	if i >= len(a) {
		return 0
	}
	return a[i]
}

func turn(a []int) []int {
	out := make([]int, a[0])
	for _, v := range a {
		for i := range v {
			out[i]++
		}
	}
	return out
}

// stepDown returns the parts next below a in which the number at from gives
// one, or nil. It goes to the first later number that is less by 2 or more; all
// between are less by 1. If there are some between, only one that is less by
// just 2 will do: others are reached by two steps, one after the other. Behind
// the end of a is a 0.
func stepDown(a []int, from int) []int {
	to := from + 1
	for to < len(a) && a[to] == a[from]-1 {
		to++
	}
	less := a[from] - at(a, to)
	if less < 2 || less > 2 && to > from+1 {
		return nil
	}
	b := slices.Clone(a)
	if to == len(b) {
		b = append(b, 0)
	}
	b[from]--
	b[to]++
	return b
}
