package shares_test

import (
	"math"
	"slices"
	"testing"

	"congou/api"
	"congou/shares"
)

const maxSum = 12

func notParts() [][]int {
	return [][]int{
		nil, {}, {0}, {-1}, {13}, {1, 2}, {3, 0}, {3, -1}, {12, 1}, {7, 6}, {2, 0, 1},
		{1, 1, 1, 1, 1, 1, 1, 1, 1, 1, 1, 1, 1}, {math.MaxInt}, {math.MinInt},
		{math.MaxInt, math.MaxInt}, {math.MaxInt, 1, math.MinInt}, make([]int, 10000),
	}
}

// extreme returns those of the list that are in the relation to all of it.
func extreme(list [][]int, relation func(a, b []int) bool) [][]int {
	return slices.DeleteFunc(slices.Clone(list), func(a []int) bool {
		return slices.ContainsFunc(list, func(b []int) bool { return !relation(a, b) })
	})
}

// P1.6 and P1.11: Meet and Join are there for any two parts of n.
func TestMeetJoinAll(t *testing.T) {
	for n := 1; n <= maxSum; n++ {
		all := allParts(n)
		for i, a := range all {
			for _, b := range all[:i+1] {
				var under, over [][]int
				for _, c := range all {
					if partsUneven(a, c) && partsUneven(b, c) {
						under = append(under, c)
					}
					if partsUneven(c, a) && partsUneven(c, b) {
						over = append(over, c)
					}
				}
				most := extreme(under, partsUneven)
				least := extreme(over, func(x, y []int) bool { return partsUneven(y, x) })
				for _, c := range [][2][]int{{a, b}, {b, a}} {
					if m, e := shares.Meet(c[0], c[1]); len(most) != 1 || !slices.Equal(m, most[0]) || e != api.OK {
						t.Fatalf("Meet(%v, %v) = %v, %v; want %v", c[0], c[1], m, e, most)
					}
					if j, e := shares.Join(c[0], c[1]); len(least) != 1 || !slices.Equal(j, least[0]) || e != api.OK {
						t.Fatalf("Join(%v, %v) = %v, %v; want %v", c[0], c[1], j, e, least)
					}
				}
			}
		}
	}
}

// P1.6
func TestMeetJoin(t *testing.T) {
	tests := []struct{ a, b, meet, join []int }{
		{[]int{4, 1, 1}, []int{3, 3}, []int{3, 2, 1}, []int{4, 2}},
		{[]int{1}, []int{1}, []int{1}, []int{1}},
		{[]int{3, 1}, []int{2, 2}, []int{2, 2}, []int{3, 1}},
		{[]int{3, 1, 1, 1}, []int{2, 2, 2}, []int{2, 2, 1, 1}, []int{3, 2, 1}},
		{[]int{12}, []int{1, 1, 1, 1, 1, 1, 1, 1, 1, 1, 1, 1}, []int{1, 1, 1, 1, 1, 1, 1, 1, 1, 1, 1, 1}, []int{12}},
	}
	for _, c := range tests {
		if m, e := shares.Meet(c.a, c.b); !slices.Equal(m, c.meet) || e != api.OK {
			t.Errorf("Meet(%v, %v) = %v, %v", c.a, c.b, m, e)
		}
		if j, e := shares.Join(c.a, c.b); !slices.Equal(j, c.join) || e != api.OK {
			t.Errorf("Join(%v, %v) = %v, %v", c.a, c.b, j, e)
		}
	}
}

// P1.6
func TestMeetJoinErrors(t *testing.T) {
	cases := [][2][]int{{{2}, {3}}, {{3}, {2}}, {{2, 1}, {2, 1, 1}}}
	for _, bad := range notParts() {
		cases = append(cases, [2][]int{bad, {3}}, [2][]int{{3}, bad}, [2][]int{bad, bad})
	}
	for _, c := range cases {
		if m, e := shares.Meet(c[0], c[1]); len(m) != 0 || e != api.ErrArg {
			t.Errorf("Meet(%v, %v) = %v, %v", c[0], c[1], m, e)
		}
		if j, e := shares.Join(c[0], c[1]); len(j) != 0 || e != api.ErrArg {
			t.Errorf("Join(%v, %v) = %v, %v", c[0], c[1], j, e)
		}
	}
}

// P1.7
func TestTurn(t *testing.T) {
	tests := [][2][]int{
		{{3, 1}, {2, 1, 1}}, {{1}, {1}}, {{2, 2}, {2, 2}}, {{4, 4, 1}, {3, 2, 2, 2}},
		{{12}, {1, 1, 1, 1, 1, 1, 1, 1, 1, 1, 1, 1}}, {{1, 1, 1, 1, 1, 1, 1, 1, 1, 1, 1, 1}, {12}},
	}
	for _, c := range tests {
		if got, e := shares.Turn(c[0]); !slices.Equal(got, c[1]) || e != api.OK {
			t.Errorf("Turn(%v) = %v, %v", c[0], got, e)
		}
	}
	for _, bad := range notParts() {
		if got, e := shares.Turn(bad); len(got) != 0 || e != api.ErrArg {
			t.Errorf("Turn(%v) = %v, %v", bad, got, e)
		}
	}
}

// P1.7 and P1.11: Turn twice is the parts themselves; it turns the order over,
// and Meet and Join with it.
func TestTurnAll(t *testing.T) {
	for n := 1; n <= maxSum; n++ {
		all := allParts(n)
		for _, a := range all {
			turnA, e := shares.Turn(a)
			back, e2 := shares.Turn(turnA)
			if !slices.Equal(back, a) || e != api.OK || e2 != api.OK {
				t.Fatalf("Turn(%v) = %v, %v; turned back %v, %v", a, turnA, e, back, e2)
			}
			for _, b := range all {
				turnB, _ := shares.Turn(b)
				if partsUneven(a, b) != partsUneven(turnB, turnA) {
					t.Fatalf("Turn does not turn over the order of %v and %v", a, b)
				}
				meet, _ := shares.Meet(a, b)
				turned, _ := shares.Turn(meet)
				if join, e := shares.Join(turnA, turnB); !slices.Equal(turned, join) || e != api.OK {
					t.Fatalf("Turn of Meet of %v and %v = %v, Join = %v, %v", a, b, turned, join, e)
				}
			}
		}
	}
}

// isNextAbove is the term of the chapter, word by word.
func isNextAbove(a, b []int, all [][]int) bool {
	return partsUneven(a, b) && !slices.Equal(a, b) && !slices.ContainsFunc(all, func(c []int) bool {
		return !slices.Equal(a, c) && !slices.Equal(c, b) && partsUneven(a, c) && partsUneven(c, b)
	})
}

// P1.7
func TestBelowAll(t *testing.T) {
	for n := 1; n <= maxSum; n++ {
		all := allParts(n)
		for _, a := range all {
			var want [][]int
			for _, b := range all {
				if isNextAbove(a, b, all) {
					want = append(want, b)
				}
			}
			if got, e := shares.Below(a); !slices.EqualFunc(got, want, slices.Equal) || e != api.OK {
				t.Fatalf("Below(%v) = %v, %v; want %v", a, got, e, want)
			}
		}
	}
}

// P1.7
func TestBelow(t *testing.T) {
	tests := []struct {
		a    []int
		want [][]int
	}{
		{[]int{4, 2}, [][]int{{4, 1, 1}, {3, 3}}},
		{[]int{1}, nil},
		{[]int{1, 1}, nil},
		{[]int{2}, [][]int{{1, 1}}},
		{[]int{12}, [][]int{{11, 1}}},
		{[]int{3, 2, 2, 1}, [][]int{{3, 2, 1, 1, 1}, {2, 2, 2, 2}}},
		{[]int{3, 2, 1}, [][]int{{3, 1, 1, 1}, {2, 2, 2}}},
	}
	for _, c := range tests {
		if got, e := shares.Below(c.a); !slices.EqualFunc(got, c.want, slices.Equal) || e != api.OK {
			t.Errorf("Below(%v) = %v, %v", c.a, got, e)
		}
	}
	for _, bad := range notParts() {
		if got, e := shares.Below(bad); len(got) != 0 || e != api.ErrArg {
			t.Errorf("Below(%v) = %v, %v", bad, got, e)
		}
	}
}

// P1.12: one is moved from a number to a later one.
func TestBelowMovesOne(t *testing.T) {
	for n := 1; n <= maxSum; n++ {
		for _, a := range allParts(n) {
			list, _ := shares.Below(a)
			for _, b := range list {
				var changes []int
				for i := range b {
					before := 0
					if i < len(a) {
						before = a[i]
					}
					if b[i] != before {
						changes = append(changes, b[i]-before)
					}
				}
				if len(b) < len(a) || !slices.Equal(changes, []int{-1, 1}) {
					t.Fatalf("Below(%v) has %v", a, b)
				}
			}
		}
	}
}
