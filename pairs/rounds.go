package pairs

import "congou/api"

// mostRounds is how many pairs there may be in a round.
const mostRounds = 4

// Rounds returns rounds in which everybody meets.
func Rounds(n int) ([][][2]int, api.Errno) {
	if !isRoundCount(n) {
		return nil, api.ErrArg
	}
	var list [][][2]int
	for r := range 2*n - 1 {
		list = append(list, round(n, r))
	}
	return list, api.OK
}

// IsRounds reports whether l are rounds.
func IsRounds(n int, l [][][2]int) (bool, api.Errno) {
	if !isRoundCount(n) {
		return false, api.ErrArg
	}
	return areRounds(n, l), api.OK
}

func isRoundCount(n int) bool { return n >= 1 && n <= mostRounds }

// round returns round r, in which the last player meets r. The others sit in a
// circle: those meet who are equally far from r.
func round(n, r int) [][2]int {
	last := 2*n - 1
	list := [][2]int{{r, last}}
	for far := 1; far < n; far++ {
		a, b := (r+far)%last, (r-far+last)%last
		list = append(list, [2]int{min(a, b), max(a, b)})
	}
	order(list)
	return list
}

func areRounds(n int, l [][][2]int) bool {
	if len(l) != 2*n-1 {
		return false
	}
	// as many pairs come as there are: if no two players meet twice, all meet
	left := allApart(2 * n)
	for _, pairs := range l {
		if len(pairs) != n || !areOrdered(pairs) || !left.meet(pairs...) || !isEachOnce(players(pairs)) {
			return false
		}
	}
	return true
}

// players returns the players of pairs, one after the other.
func players(pairs [][2]int) []int {
	var list []int
	for _, p := range pairs {
		list = append(list, p[0], p[1])
	}
	return list
}
