package sketch_test

import (
	"math"
	"slices"
	"testing"

	"congou/api"
	"congou/sketch"
)

// P3.5
func TestKeep(t *testing.T) {
	tests := []struct {
		k            int
		stream, dice []int
		want         []int
	}{
		{1, nil, nil, nil},
		{8, []int{}, nil, nil},
		{1, []int{7}, []int{39}, []int{7}},
		{3, []int{7, 5}, []int{0, 0}, []int{7, 5}},
		{2, []int{7, 5}, []int{0, 0}, []int{7, 5}},
		{2, []int{9, 7, 5}, []int{0, 0, 0}, []int{5, 7}},
		{2, []int{9, 7, 5}, []int{0, 0, 1}, []int{9, 5}},
		{2, []int{9, 7, 5}, []int{0, 0, 2}, []int{9, 7}},
		{2, []int{9, 7, 5}, []int{0, 0, 3}, []int{5, 7}},  // 3 modulo 3 is 0
		{2, []int{9, 7, 5}, []int{1, 1, 37}, []int{9, 5}}, // 37 modulo 3 is 1
		{1, []int{1, 2, 3, 4}, []int{0, 0, 1, 4}, []int{4}},
		{1, []int{1, 2, 3, 4}, []int{0, 0, 1, 3}, []int{2}},
		{2, []int{1, 2, 3, 4, 5}, []int{0, 0, 1, 1, 0}, []int{5, 4}}, // a place is taken twice
		{3, []int{1, 2, 3, 4, 5}, []int{39, 39, 39, 39, 39}, []int{1, 2, 3}},
		{8, []int{8, 7, 6, 5, 4, 3, 2, 1, 0}, []int{0, 0, 0, 0, 0, 0, 0, 0, 7}, []int{8, 7, 6, 5, 4, 3, 2, 0}},
		{1, slices.Repeat([]int{4, 5}, 20), append(slices.Repeat([]int{39}, 37), 38, 38, 39), []int{5}}, // 38 modulo 38 is 0
	}
	for _, c := range tests {
		if got, e := sketch.Keep(c.k, c.stream, c.dice); !slices.Equal(got, c.want) || e != api.OK {
			t.Errorf("Keep(%v, %v, %v) = %v, %v", c.k, c.stream, c.dice, got, e)
		}
	}
}

// P3.5: the term itself, place by place from behind: what is in a place is the
// last key that took it.
func TestKeepAll(t *testing.T) {
	next := walk(13)
	for range 2000 {
		k, n := 1+next(8), next(41)
		stream := walkedStream(next, n)
		var dice []int
		for range n {
			dice = append(dice, next(40))
		}
		var want []int
		for place := range min(k, n) {
			at := n - 1
			for at >= k && dice[at]%(at+1) != place {
				at--
			}
			if at < k {
				at = place
			}
			want = append(want, stream[at])
		}
		if got, e := sketch.Keep(k, stream, dice); !slices.Equal(got, want) || e != api.OK {
			t.Fatalf("Keep(%v, %v, %v) = %v, %v", k, stream, dice, got, e)
		}
	}
}

// P3.5
func TestKeepErrors(t *testing.T) {
	for _, bad := range notStreams() {
		if got, e := sketch.Keep(2, bad, make([]int, len(bad))); len(got) != 0 || e != api.ErrArg {
			t.Errorf("Keep(2, %v) = %v, %v", bad, got, e)
		}
	}
	for _, bad := range notCounters() {
		if got, e := sketch.Keep(bad, []int{1, 2}, []int{0, 0}); len(got) != 0 || e != api.ErrArg {
			t.Errorf("Keep(%v, ..) = %v, %v", bad, got, e)
		}
	}
	for _, dice := range [][]int{
		nil, {0, 0}, {0, 0, 0, 0}, {40, 0, 0}, {0, 0, 40}, {-1, 0, 0}, {0, 0, -1},
		{0, 0, math.MaxInt}, {0, math.MinInt, 0}, make([]int, 10000),
	} {
		for _, k := range []int{1, 2, 8} {
			if got, e := sketch.Keep(k, []int{3, 4, 5}, dice); len(got) != 0 || e != api.ErrArg {
				t.Errorf("Keep(%v, 3 4 5, %v) = %v, %v", k, dice, got, e)
			}
		}
	}
	if got, e := sketch.Keep(1, nil, []int{0}); len(got) != 0 || e != api.ErrArg {
		t.Error(got, e)
	}
}

// P3.11: over all dice whose i-th number is from 0 to i, every index is kept
// equally often.
func TestKeepEvenly(t *testing.T) {
	for n := 1; n <= 7; n++ {
		stream := make([]int, n)
		for i := range stream {
			stream[i] = i
		}
		for k := 1; k <= n; k++ {
			kept := make([]int, n)
			all := 0
			eachDice(n, func(dice []int) {
				all++
				got, _ := sketch.Keep(k, stream, dice)
				for _, i := range got {
					kept[i]++
				}
			})
			for i, times := range kept {
				if times*n != all*k {
					t.Errorf("of %v keys and %v places, %v is kept %v times of %v", n, k, i, times, all)
				}
			}
		}
	}
}

// eachDice calls f with all dice whose i-th number is from 0 to i.
func eachDice(n int, f func(dice []int)) {
	dice := make([]int, n)
	var set func(i int)
	set = func(i int) {
		if i == n {
			f(dice)
			return
		}
		for v := range i + 1 {
			dice[i] = v
			set(i + 1)
		}
	}
	set(0)
}
