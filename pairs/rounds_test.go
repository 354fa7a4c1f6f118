package pairs_test

import (
	"math"
	"slices"
	"testing"

	"congou/api"
	"congou/pairs"
)

var notRoundCounts = append([]int{0, 5, 6, 7, 8}, far...)

// P8.5
func TestRounds(t *testing.T) {
	tests := [][][][2]int{
		{{{0, 1}}},
		{{{0, 3}, {1, 2}}, {{0, 2}, {1, 3}}, {{0, 1}, {2, 3}}},
		{{{0, 5}, {1, 4}, {2, 3}}, {{0, 2}, {1, 5}, {3, 4}}, {{0, 4}, {1, 3}, {2, 5}}, {{0, 1}, {2, 4}, {3, 5}}, {{0, 3}, {1, 2}, {4, 5}}},
	}
	for i, want := range tests {
		if l := rounds(t, i+1); !sameRounds(l, want) {
			t.Errorf("Rounds(%v) = %v", i+1, l)
		}
	}
	for n := 1; n <= 4; n++ {
		l := rounds(t, n)
		if !sameRounds(l, roundsOf(n)) || !areRoundsOf(n, l) {
			t.Errorf("Rounds(%v) = %v", n, l)
		}
	}
	for _, n := range notRoundCounts {
		if l, e := pairs.Rounds(n); len(l) != 0 || e != api.ErrArg {
			t.Errorf("Rounds(%v) = %v, %v", n, l, e)
		}
		for _, l := range [][][][2]int{nil, {}, {{{0, 1}}}, roundsOf(2), roundsOf(4), make([][][2]int, 9)} {
			if is, e := pairs.IsRounds(n, l); is || e != api.ErrArg {
				t.Errorf("IsRounds(%v, %v) = %v, %v", n, l, is, e)
			}
		}
	}
}

// P8.12: the players renamed in all ways, and the rounds in another order.
func TestIsRoundsRenamed(t *testing.T) {
	next := walk(5)
	for n := 1; n <= 4; n++ {
		l := rounds(t, n)
		if is, e := pairs.IsRounds(n, l); !is || e != api.OK {
			t.Fatalf("IsRounds(%v, %v) = %v, %v", n, l, is, e)
		}
		for _, to := range permutations(2 * n) {
			if n == 4 && next(20) != 0 {
				continue
			}
			renamed := renamedRounds(l, to)
			shift := next(len(l))
			other := slices.Concat(renamed[shift:], renamed[:shift])
			for _, rounds := range [][][][2]int{renamed, other} {
				if is, e := pairs.IsRounds(n, rounds); !is || e != api.OK {
					t.Fatalf("IsRounds(%v, %v) = %v, %v", n, rounds, is, e)
				}
			}
		}
	}
}

// P8.5: all rounds of few players.
func TestIsRoundsAll(t *testing.T) {
	check := func(n int, l [][][2]int) bool {
		is, e := pairs.IsRounds(n, l)
		if is != areRoundsOf(n, l) || e != api.OK {
			t.Fatalf("IsRounds(%v, %v) = %v, %v", n, l, is, e)
		}
		return is
	}
	some := 0
	eachSlice(2, -2, 4, func(p []int) {
		if check(1, [][][2]int{{{p[0], p[1]}}}) {
			some++
		}
		check(2, [][][2]int{{{p[0], p[1]}}})
		check(1, [][][2]int{{{p[0], p[1]}, {p[0], p[1]}}})
		check(1, [][][2]int{{{p[0], p[1]}}, {{p[0], p[1]}}})
	})
	if some != 1 {
		t.Errorf("%v of 2 players", some)
	}
	players := [][2]int{{0, 1}, {0, 2}, {0, 3}, {1, 2}, {1, 3}, {2, 3}, {1, 0}, {3, 2}}
	some = 0
	eachSlice(6, 0, len(players)-1, func(i []int) {
		var l [][][2]int
		for r := range 3 {
			l = append(l, [][2]int{players[i[2*r]], players[i[2*r+1]]})
		}
		if check(2, l) {
			some++
		}
	})
	if some != 6 {
		t.Errorf("%v of 4 players", some)
	}
}

// P8.5: rounds with one player changed, two pairs exchanged, or another number
// of pairs or rounds.
func TestIsRoundsChanged(t *testing.T) {
	for n := 1; n <= 4; n++ {
		l := rounds(t, n)
		check := func(name string, changed [][][2]int) {
			before := cloneRounds(changed)
			is, e := pairs.IsRounds(n, changed)
			if is != areRoundsOf(n, changed) || e != api.OK {
				t.Fatalf("%v: IsRounds(%v, %v) = %v, %v", name, n, changed, is, e)
			}
			if is && !sameRounds(changed, l) {
				t.Fatalf("%v: IsRounds(%v, %v)", name, n, changed)
			}
			if !sameRounds(changed, before) {
				t.Fatalf("%v: %v became %v", name, before, changed)
			}
		}
		check("none", nil)
		check("empty", [][][2]int{})
		check("empty rounds", make([][][2]int, 2*n-1))
		check("a round less", l[1:])
		check("a round more", append(cloneRounds(l), l[0]))
		check("an empty round more", append(cloneRounds(l), nil))
		check("many", slices.Repeat(l, 1000))
		for r := range l {
			changed := cloneRounds(l)
			changed[r] = changed[r][1:]
			check("a pair less", changed)
			changed = cloneRounds(l)
			changed[r] = append(changed[r], [2]int{2*n - 2, 2*n - 1})
			check("a pair more", changed)
			changed = cloneRounds(l)
			changed[r] = slices.Repeat(changed[r], 1000)
			check("many pairs", changed)
			changed = cloneRounds(l)
			slices.Reverse(changed[r])
			check("backward", changed)
			for i := range l[r] {
				changed = cloneRounds(l)
				changed[r][i][0], changed[r][i][1] = changed[r][i][1], changed[r][i][0]
				check("a pair backward", changed)
				for side := range 2 {
					for _, player := range []int{-1, 0, 1, 2, 3, 4, 5, 6, 7, 8, math.MaxInt, math.MinInt} {
						changed = cloneRounds(l)
						changed[r][i][side] = player
						check("a player", changed)
					}
				}
				for q := range r {
					for j := range l[q] {
						changed = cloneRounds(l)
						changed[r][i], changed[q][j] = changed[q][j], changed[r][i]
						check("exchanged", changed)
						slices.SortFunc(changed[r], comparePairs)
						slices.SortFunc(changed[q], comparePairs)
						check("exchanged and in order", changed)
						changed = cloneRounds(l)
						changed[q] = slices.Clone(changed[r])
						check("the same round", changed)
					}
				}
			}
		}
	}
}

// P8.5: in each round each player comes once, though each two meet just once.
func TestIsRoundsEachOnce(t *testing.T) {
	l := [][][2]int{{{0, 1}, {0, 2}}, {{0, 3}, {1, 2}}, {{1, 3}, {2, 3}}}
	if is, e := pairs.IsRounds(2, l); is || e != api.OK {
		t.Error(is, e)
	}
	// and each player comes once in each round, though two meet twice
	l = [][][2]int{{{0, 1}, {2, 3}}, {{0, 2}, {1, 3}}, {{0, 1}, {2, 3}}}
	if is, e := pairs.IsRounds(2, l); is || e != api.OK {
		t.Error(is, e)
	}
}

// P8.5: the result is new memory.
func TestRoundsNew(t *testing.T) {
	for range 2 {
		l := rounds(t, 4)
		for r, round := range l {
			if !slices.Equal(round, roundsOf(4)[r]) {
				t.Fatal(l)
			}
			spoil(round, [2]int{-7, -7})
		}
	}
}
