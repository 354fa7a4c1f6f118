package shares

import (
	"slices"

	"congou/api"
)

// Gives returns gives that turn x into y.
func Gives(x, y []int) ([]Give, api.Errno) {
	if !areComparable(x, y) || !isFalling(x) || !isFalling(y) {
		return nil, api.ErrArg
	}
	if !dominates(x, y) {
		return nil, api.ErrNone
	}
	return findGives(x, y), api.OK
}

// CheckGives reports whether l are gives that turn x into y.
func CheckGives(x, y []int, l []Give) (bool, api.Errno) {
	if !areComparable(x, y) {
		return false, api.ErrArg
	}
	state := slices.Clone(x)
	for _, g := range l {
		if !isPossible(state, g) {
			return false, api.OK
		}
		do(state, g)
	}
	return slices.Equal(state, y), api.OK
}

func isPossible(state []int, g Give) bool {
	if g.From < 0 || g.From >= len(state) || g.To < 0 || g.To >= len(state) {
		return false
	}
	// The difference is halved, as twice a Much of any size may not be an int.
	// A share is no richer than itself, so From and To differ if this holds.
	return g.Much >= 1 && g.Much <= (state[g.From]-state[g.To])/2
}

func do(state []int, g Give) {
	state[g.From] -= g.Much
	state[g.To] += g.Much
}

// findGives returns at most len(x)-1 gives that turn x into y, where both are
// falling and x is at least as uneven as y.
//
// Each one goes to the first share that lacks something, from the nearest one
// before it that has too much. The shares between these two are done, so the
// state stays falling and at least as uneven as y, and a share that is done is
// left alone. Each give finishes a share, and the last one two of them.
func findGives(x, y []int) []Give {
	var list []Give
	state := slices.Clone(x)
	for {
		to := firstPoorer(state, y)
		if to < 0 {
			return list
		}
		from := to - 1
		for state[from] == y[from] {
			from--
		}
		g := Give{From: from, To: to, Much: min(state[from]-y[from], y[to]-state[to])}
		do(state, g)
		list = append(list, g)
	}
}

// firstPoorer returns the first index at which state is below y, or -1.
func firstPoorer(state, y []int) int {
	for i := range state {
		if state[i] < y[i] {
			return i
		}
	}
	return -1
}
