package pairs_test

import (
	"math"
	"slices"
	"testing"

	"congou/api"
	"congou/pairs"
)

var notPlayers = append([]int{0, 1, 2, 10, 11, 12, 13, 15}, far...)

// all threes of v players there are.
var manyThrees = map[int]int{3: 1, 7: 30, 9: 840}

// P8.6, P8.13
func TestThrees(t *testing.T) {
	if l := threes(t, 3); !slices.Equal(l, [][3]int{{0, 1, 2}}) {
		t.Error(l)
	}
	if l := threes(t, 7); !slices.Equal(l, [][3]int{{0, 1, 2}, {0, 3, 4}, {0, 5, 6}, {1, 3, 5}, {1, 4, 6}, {2, 3, 6}, {2, 4, 5}}) {
		t.Error(l)
	}
	for v := 3; v <= 9; v++ {
		all := threesOf(v)
		if len(all) != manyThrees[v] {
			t.Errorf("%v: %v threes", v, len(all))
		}
		l, e := pairs.Threes(v)
		if (e == api.OK) != (v == 3 || v == 7 || v == 9) {
			t.Errorf("Threes(%v): %v", v, e)
		}
		if len(all) == 0 {
			if len(l) != 0 || e != api.ErrNone {
				t.Errorf("Threes(%v) = %v, %v", v, l, e)
			}
			continue
		}
		if !slices.Equal(l, all[0]) || e != api.OK {
			t.Errorf("Threes(%v) = %v, %v", v, l, e)
		}
		if is, e := pairs.IsThrees(v, l); !is || e != api.OK {
			t.Errorf("IsThrees(%v, %v) = %v, %v", v, l, is, e)
		}
		var times [9]int
		for _, triple := range l {
			for _, player := range triple {
				times[player]++
			}
		}
		for player := range v {
			if times[player] != (v-1)/2 {
				t.Errorf("Threes(%v): %v is in %v", v, player, times[player])
			}
		}
	}
}

// P8.6, P8.7
func TestThreesErrors(t *testing.T) {
	for _, v := range notPlayers {
		if l, e := pairs.Threes(v); len(l) != 0 || e != api.ErrArg {
			t.Errorf("Threes(%v) = %v, %v", v, l, e)
		}
		for _, l := range [][][3]int{nil, {}, {{0, 1, 2}}, threesOf(7)[0], make([][3]int, 1000)} {
			if is, e := pairs.IsThrees(v, l); is || e != api.ErrArg {
				t.Errorf("IsThrees(%v, %v) = %v, %v", v, l, is, e)
			}
			if s, e := pairs.Spreads(v, l); len(s) != 0 || e != api.ErrArg {
				t.Errorf("Spreads(%v, %v) = %v, %v", v, l, s, e)
			}
		}
	}
}

// checkThrees compares IsThrees, and Spreads for what are none, with the words
// of the chapter.
func checkThrees(t *testing.T, v int, l [][3]int) bool {
	t.Helper()
	before := slices.Clone(l)
	is, e := pairs.IsThrees(v, l)
	if is != areThreesOf(v, l) || e != api.OK {
		t.Fatalf("IsThrees(%v, %v) = %v, %v", v, l, is, e)
	}
	if !is {
		if s, e := pairs.Spreads(v, l); len(s) != 0 || e != api.ErrArg {
			t.Fatalf("Spreads(%v, %v) = %v, %v", v, l, s, e)
		}
	}
	if !slices.Equal(l, before) {
		t.Fatalf("%v became %v", before, l)
	}
	return is
}

// P8.6: all sets of triples of few players, and all short lists.
func TestIsThreesAll(t *testing.T) {
	for v := 3; v <= 5; v++ {
		var triples [][3]int
		for a := range v {
			for b := a + 1; b < v; b++ {
				for c := b + 1; c < v; c++ {
					triples = append(triples, [3]int{a, b, c})
				}
			}
		}
		some := 0
		for set := range 1 << len(triples) {
			var l [][3]int
			for i, triple := range triples {
				if set>>i&1 == 1 {
					l = append(l, triple)
				}
			}
			if checkThrees(t, v, l) {
				some++
			}
		}
		if some != manyThrees[v] {
			t.Errorf("%v: %v", v, some)
		}
	}
	eachSlice(3, -1, 4, func(l []int) {
		for v := 3; v <= 9; v++ {
			triple := [3]int{l[0], l[1], l[2]}
			checkThrees(t, v, [][3]int{triple})
			checkThrees(t, v, [][3]int{triple, triple})
			checkThrees(t, v, [][3]int{triple, {0, 1, 2}})
			checkThrees(t, v, [][3]int{{0, 1, 2}, triple})
		}
	})
}

// P8.6: threes with one player changed, one triple less or more, or in another
// order.
func TestIsThreesChanged(t *testing.T) {
	for _, v := range []int{3, 7, 9} {
		l := threes(t, v)
		checkThrees(t, v, nil)
		checkThrees(t, v, [][3]int{})
		checkThrees(t, v, slices.Repeat(l, 1000))
		checkThrees(t, v, make([][3]int, 10000))
		checkThrees(t, v, append(slices.Clone(l), l[len(l)-1]))
		checkThrees(t, v, append(slices.Clone(l), [3]int{v - 3, v - 2, v - 1}))
		for w := 3; w <= 9; w++ {
			if checkThrees(t, w, l) != (v == w) {
				t.Errorf("%v for %v", v, w)
			}
		}
		for i, triple := range l {
			checkThrees(t, v, slices.Delete(slices.Clone(l), i, i+1))
			changed := slices.Clone(l)
			for j := range i {
				changed[i], changed[j] = changed[j], changed[i]
				if checkThrees(t, v, changed) {
					t.Errorf("%v", changed)
				}
				changed[i], changed[j] = changed[j], changed[i]
			}
			for side := range 3 {
				for _, player := range []int{-1, 0, 1, 2, 3, 4, 5, 6, 7, 8, 9, math.MaxInt, math.MinInt} {
					changed[i] = triple
					changed[i][side] = player
					if checkThrees(t, v, changed) && player != triple[side] {
						t.Errorf("%v", changed)
					}
				}
			}
			for _, other := range permutations(3)[1:] {
				changed[i] = [3]int{triple[other[0]], triple[other[1]], triple[other[2]]}
				if checkThrees(t, v, changed) {
					t.Errorf("%v", changed)
				}
			}
		}
	}
}

// P8.6, P8.7, P8.13, and P5: all threes of the numbers of players that have some.
func TestSpreads(t *testing.T) {
	tests := []struct {
		v    int
		want [][]int
	}{
		{3, [][]int{{0}}}, {7, nil}, {9, [][]int{{0, 10, 11}, {1, 6, 9}, {2, 5, 7}, {3, 4, 8}}},
	}
	for _, c := range tests {
		if s, e := pairs.Spreads(c.v, threes(t, c.v)); !sameLists(s, c.want) || e != api.OK {
			t.Errorf("Spreads(%v, Threes) = %v, %v", c.v, s, e)
		}
		for i, l := range threesOf(c.v) {
			if !checkThrees(t, c.v, l) {
				t.Fatalf("%v", l)
			}
			before := slices.Clone(l)
			s, e := pairs.Spreads(c.v, l)
			if len(s) != len(c.want) || e != api.OK {
				t.Fatalf("Spreads(%v, %v) = %v, %v", c.v, l, s, e)
			}
			if !slices.Equal(l, before) {
				t.Fatalf("%v became %v", before, l)
			}
			if i%7 == 0 && !sameLists(s, spreadsOf(c.v, l)) {
				t.Fatalf("Spreads(%v, %v) = %v", c.v, l, s)
			}
			if !slices.IsSortedFunc(s, slices.Compare[[]int]) {
				t.Fatalf("Spreads(%v, %v) = %v", c.v, l, s)
			}
			if c.v == 9 {
				checkSpreads(t, l, s)
			}
		}
	}
}

// checkSpreads checks that these are four spreads, and that each of the threes of
// 9 players is in one.
func checkSpreads(t *testing.T, l [][3]int, spreads [][]int) {
	t.Helper()
	if len(spreads) != 4 {
		t.Fatalf("%v: %v", l, spreads)
	}
	times := make([]int, len(l))
	for _, spread := range spreads {
		if len(spread) != 3 || !slices.IsSorted(spread) {
			t.Fatalf("%v: %v", l, spread)
		}
		var comes [9]int
		for _, i := range spread {
			times[i]++
			for _, player := range l[i] {
				comes[player]++
			}
		}
		for _, n := range comes {
			if n != 1 {
				t.Fatalf("%v: %v", l, spread)
			}
		}
	}
	for _, n := range times {
		if n != 1 {
			t.Fatalf("%v: %v", l, spreads)
		}
	}
}

// P8.13, and P5: the players renamed.
func TestThreesRenamed(t *testing.T) {
	for _, v := range []int{3, 7} {
		l := threes(t, v)
		for _, to := range permutations(v) {
			renamed := renamedThrees(l, to)
			if is, e := pairs.IsThrees(v, renamed); !is || e != api.OK {
				t.Fatalf("IsThrees(%v, %v) = %v, %v", v, renamed, is, e)
			}
			if compareThrees(renamed, l) < 0 {
				t.Fatalf("%v before %v", renamed, l)
			}
		}
	}
}

// P8.6, P8.7: the results are new memory.
func TestThreesNew(t *testing.T) {
	given := threesOf(9)[0]
	for range 2 {
		l := threes(t, 9)
		if !slices.Equal(l, given) {
			t.Fatal(l)
		}
		spoil(l, [3]int{-7, -7, -7})
		s, e := pairs.Spreads(9, given)
		if !sameLists(s, [][]int{{0, 10, 11}, {1, 6, 9}, {2, 5, 7}, {3, 4, 8}}) || e != api.OK {
			t.Fatal(s, e)
		}
		// one list in s must not be changed with another
		for i, spread := range s {
			if slices.Contains(spread, -7) {
				t.Fatalf("%v at %v", spread, i)
			}
			spoil(spread, -7)
		}
	}
}
