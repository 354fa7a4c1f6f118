package deals

import "congou/api"

// The greatest q of what is left, and the greatest number of steps.
const (
	mostParts = 12
	mostSteps = 8
)

// Steps returns what the one who offers first gets in n steps.
func Steps(n, p, q int) (api.Frac, api.Errno) {
	if !areWithin(0, mostSteps, n) || !isLeft(p, q) {
		return api.Frac{}, api.ErrArg
	}
	got := whole(1)
	for range n {
		// The other one must get what that one would get after a refusal.
		got = plus(whole(1), times(quotient(-p, q), got))
	}
	return got, api.OK
}

// Forever returns what the one who offers first gets in steps without an end.
func Forever(p, q int) (api.Frac, api.Errno) {
	if !isLeft(p, q) {
		return api.Frac{}, api.ErrArg
	}
	return quotient(q, q+p), api.OK
}

func isLeft(p, q int) bool { return areWithin(1, mostParts, q) && areWithin(0, q-1, p) }
