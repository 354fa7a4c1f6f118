package pairs

import (
	"slices"

	"congou/api"
)

// mostPins is how many pins there may be.
const mostPins = 6

// IsPins reports whether l are pins.
func IsPins(l []int) (bool, api.Errno) {
	if !isPinCount(len(l)) {
		return false, api.ErrArg
	}
	return isPins(l), api.OK
}

// Pins returns all pins.
func Pins(n int) ([][]int, api.Errno) {
	if !isPinCount(n) {
		return nil, api.ErrArg
	}
	return pinsFrom(n, nil), api.OK
}

// Welch returns the pins of a prime.
func Welch(p, g int) ([]int, api.Errno) {
	if !isPrime(p) || g < 1 || g >= p {
		return nil, api.ErrArg
	}
	list := make([]int, p-1)
	power := 1
	for i := range list {
		power = power * g % p
		list[i] = power - 1
	}
	if !isEachOnce(list) {
		return nil, api.ErrArg
	}
	return list, api.OK
}

// Quarter returns pins turned by a quarter.
func Quarter(l []int) ([]int, api.Errno) {
	if !isPins(l) {
		return nil, api.ErrArg
	}
	turned := make([]int, len(l))
	for i, pin := range l {
		turned[pin] = len(l) - 1 - i
	}
	return turned, api.OK
}

func isPinCount(n int) bool { return n >= 1 && n <= mostPins }

// isPrime reports whether p is a prime that has pins.
func isPrime(p int) bool { return p == 2 || p == 3 || p == 5 || p == 7 }

func isPins(l []int) bool {
	return isPinCount(len(l)) && isEachOnce(l) && areArrowsDifferent(l)
}

// pinsFrom returns all pins of n that begin with these, in order.
func pinsFrom(n int, begun []int) [][]int {
	if len(begun) == n {
		return [][]int{begun}
	}
	var list [][]int
	for pin := range n {
		more := append(slices.Clone(begun), pin)
		if !slices.Contains(begun, pin) && areArrowsDifferent(more) {
			list = append(list, pinsFrom(n, more)...)
		}
	}
	return list
}

// areArrowsDifferent reports whether no two arrows from one pin to a later one
// are the same.
func areArrowsDifferent(l []int) bool {
	seen := map[[2]int]bool{}
	for j := range l {
		for i := range j {
			arrow := [2]int{j - i, l[j] - l[i]}
			if seen[arrow] {
				return false
			}
			seen[arrow] = true
		}
	}
	return true
}
