package sketch

import (
	"slices"

	"congou/api"
)

const maxDie = 39

// Keep returns what is kept of a stream in k places. The i-th key comes into
// one of them for k of the i + 1 numbers that its die may show, which keeps
// each index equally often.
func Keep(k int, stream, dice []int) ([]int, api.Errno) {
	if !isCounters(k) || !isStream(stream) || !areDice(dice, len(stream)) {
		return nil, api.ErrArg
	}
	first := min(k, len(stream))
	kept := slices.Clone(stream[:first])
	for i := first; i < len(stream); i++ {
		if place := dice[i] % (i + 1); place < k {
			kept[place] = stream[i]
		}
	}
	return kept, api.OK
}

func areDice(dice []int, n int) bool {
	return len(dice) == n && allWithin(dice, 0, maxDie)
}
