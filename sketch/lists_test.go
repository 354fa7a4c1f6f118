package sketch_test

import (
	"math"
	"slices"
	"testing"

	"congou/api"
	"congou/sketch"
)

type counts = []sketch.Count

// P3.1
func TestShort(t *testing.T) {
	tests := []struct {
		k      int
		stream []int
		want   counts
	}{
		{1, nil, nil},
		{8, []int{}, nil},
		{1, []int{1, 1, 2, 3, 1}, counts{{Key: 1, N: 1}}},
		{2, []int{1, 1, 2, 3, 1}, counts{{Key: 1, N: 2}}},
		{3, []int{1, 1, 2, 3, 1}, counts{{Key: 1, N: 3}, {Key: 2, N: 1}, {Key: 3, N: 1}}},
		{1, []int{4, 7}, nil},
		{1, []int{4, 7, 7}, counts{{Key: 7, N: 1}}},
		{2, []int{9, 0, 9, 5, 0}, counts{{Key: 0, N: 1}, {Key: 9, N: 1}}},
		{2, []int{15, 3}, counts{{Key: 3, N: 1}, {Key: 15, N: 1}}},
		{3, []int{3, 2, 1, 0}, nil},
		{3, []int{3, 3, 2, 1, 1, 1, 0, 2}, counts{{Key: 1, N: 2}, {Key: 2, N: 1}, {Key: 3, N: 1}}},
		{8, slices.Repeat([]int{15}, 40), counts{{Key: 15, N: 40}}},
		{8, []int{8, 7, 6, 5, 4, 3, 2, 1}, counts{{1, 1, 0}, {2, 1, 0}, {3, 1, 0}, {4, 1, 0}, {5, 1, 0}, {6, 1, 0}, {7, 1, 0}, {8, 1, 0}}},
	}
	for _, c := range tests {
		if got, e := sketch.Short(c.k, c.stream); !slices.Equal(got, c.want) || e != api.OK {
			t.Errorf("Short(%v, %v) = %v, %v", c.k, c.stream, got, e)
		}
	}
}

// P3.1
func TestFull(t *testing.T) {
	tests := []struct {
		k      int
		stream []int
		want   counts
	}{
		{1, nil, nil},
		{8, []int{}, nil},
		{2, []int{1, 1, 2, 3, 1}, counts{{Key: 1, N: 3}, {Key: 3, N: 2, Off: 1}}},
		{1, []int{1, 1, 2, 3, 1}, counts{{Key: 1, N: 5, Off: 4}}},
		{3, []int{1, 1, 2, 3, 1}, counts{{Key: 1, N: 3}, {Key: 2, N: 1}, {Key: 3, N: 1}}},
		{2, []int{9, 4, 6}, counts{{Key: 6, N: 2, Off: 1}, {Key: 9, N: 1}}},       // 4 goes: the least key, not the first one
		{2, []int{4, 9, 6}, counts{{Key: 6, N: 2, Off: 1}, {Key: 9, N: 1}}},       // nor the last one
		{2, []int{4, 4, 9, 6}, counts{{Key: 4, N: 2}, {Key: 6, N: 2, Off: 1}}},    // 9 goes: the least N
		{2, []int{9, 9, 4, 4, 6}, counts{{Key: 6, N: 3, Off: 2}, {Key: 9, N: 2}}}, // 4 goes
		{2, []int{1, 2, 3, 3}, counts{{Key: 2, N: 1}, {Key: 3, N: 3, Off: 1}}},    // Off stays as N grows
		{2, []int{1, 2, 3, 1}, counts{{Key: 1, N: 2, Off: 1}, {Key: 3, N: 2, Off: 1}}},
		{1, []int{0, 15}, counts{{Key: 15, N: 2, Off: 1}}},
		{8, slices.Repeat([]int{15}, 40), counts{{Key: 15, N: 40}}},
		{8, []int{8, 7, 6, 5, 4, 3, 2, 1, 0}, counts{{0, 2, 1}, {2, 1, 0}, {3, 1, 0}, {4, 1, 0}, {5, 1, 0}, {6, 1, 0}, {7, 1, 0}, {8, 1, 0}}},
	}
	for _, c := range tests {
		if got, e := sketch.Full(c.k, c.stream); !slices.Equal(got, c.want) || e != api.OK {
			t.Errorf("Full(%v, %v) = %v, %v", c.k, c.stream, got, e)
		}
	}
}

// shortList is the term, with an N for each key.
func shortList(k int, stream []int) counts {
	n := make([]int, 16)
	used := 0
	for _, key := range stream {
		switch {
		case n[key] > 0:
			n[key]++
		case used < k:
			n[key] = 1
			used++
		default:
			for i := range n {
				if n[i] > 0 {
					if n[i]--; n[i] == 0 {
						used--
					}
				}
			}
		}
	}
	return told(n, make([]int, 16))
}

// fullList is the term, with an N and an Off for each key.
func fullList(k int, stream []int) counts {
	n, off := make([]int, 16), make([]int, 16)
	used := 0
	for _, key := range stream {
		if n[key] == 0 && used == k {
			out := -1
			for i := range n {
				if n[i] > 0 && (out < 0 || n[i] < n[out]) {
					out = i
				}
			}
			n[key], off[key] = n[out], n[out]
			n[out], off[out] = 0, 0
		} else if n[key] == 0 {
			used++
		}
		n[key]++
	}
	return told(n, off)
}

func told(n, off []int) counts {
	var list counts
	for key := range n {
		if n[key] > 0 {
			list = append(list, sketch.Count{Key: key, N: n[key], Off: off[key]})
		}
	}
	return list
}

// P3.1: the terms themselves.
func TestListsAll(t *testing.T) {
	for _, stream := range someStreams() {
		for k := 1; k <= 8; k++ {
			if got, e := sketch.Short(k, stream); !slices.Equal(got, shortList(k, stream)) || e != api.OK {
				t.Fatalf("Short(%v, %v) = %v, %v", k, stream, got, e)
			}
			if got, e := sketch.Full(k, stream); !slices.Equal(got, fullList(k, stream)) || e != api.OK {
				t.Fatalf("Full(%v, %v) = %v, %v", k, stream, got, e)
			}
		}
	}
}

// P3.1
func TestListErrors(t *testing.T) {
	for _, f := range []func(int, []int) ([]sketch.Count, api.Errno){sketch.Short, sketch.Full} {
		for _, bad := range notStreams() {
			if got, e := f(3, bad); len(got) != 0 || e != api.ErrArg {
				t.Errorf("the list of %v = %v, %v", bad, got, e)
			}
		}
		for _, bad := range notCounters() {
			for _, stream := range [][]int{nil, {1, 1, 2}, make([]int, 41)} {
				if got, e := f(bad, stream); len(got) != 0 || e != api.ErrArg {
					t.Errorf("the list of %v with k %v = %v, %v", stream, bad, got, e)
				}
			}
		}
	}
}

// P3.6: what N of Short is at most and at least; all of Heavy are on it.
func TestShortBounds(t *testing.T) {
	for _, stream := range someStreams() {
		for k := 1; k <= 8; k++ {
			list, _ := sketch.Short(k, stream)
			for key := range 16 {
				n, often := onList(list, key).N, count(stream, key)
				if n > often || n < often-len(stream)/(k+1) {
					t.Fatalf("Short(%v, %v) = %v", k, stream, list)
				}
			}
			heavy, _ := sketch.Heavy(k, stream)
			for _, key := range heavy {
				if onList(list, key).N == 0 {
					t.Fatalf("Short(%v, %v) = %v without %v", k, stream, list, key)
				}
			}
		}
	}
}

// P3.7: what N of Full is at least, N less Off at most, the sum of all N, and
// how often the others come.
func TestFullBounds(t *testing.T) {
	for _, stream := range someStreams() {
		for k := 1; k <= 8; k++ {
			list, _ := sketch.Full(k, stream)
			sum, least := 0, math.MaxInt
			for _, c := range list {
				sum += c.N
				least = min(least, c.N)
				if often := count(stream, c.Key); c.N < often || c.N-c.Off > often {
					t.Fatalf("Full(%v, %v) = %v", k, stream, list)
				}
			}
			if sum != len(stream) {
				t.Fatalf("Full(%v, %v) = %v, with the sum %v", k, stream, list, sum)
			}
			for key := range 16 {
				often := count(stream, key)
				if onList(list, key).N > 0 || often == 0 {
					continue
				}
				if len(list) < k || often > least {
					t.Fatalf("Full(%v, %v) = %v without %v", k, stream, list, key)
				}
			}
		}
	}
}

// P3.3
func TestMerge(t *testing.T) {
	tests := []struct {
		k          int
		a, b, want counts
	}{
		{1, nil, nil, nil},
		{8, counts{}, nil, nil},
		{2, counts{{Key: 1, N: 3}}, nil, counts{{Key: 1, N: 3}}},
		{2, nil, counts{{Key: 0, N: 3}, {Key: 15, N: 40}}, counts{{Key: 0, N: 3}, {Key: 15, N: 40}}},
		{2, counts{{Key: 1, N: 3}}, counts{{Key: 1, N: 4}}, counts{{Key: 1, N: 7}}},
		{2, counts{{Key: 2, N: 3}}, counts{{Key: 1, N: 4}}, counts{{Key: 1, N: 4}, {Key: 2, N: 3}}},
		{1, counts{{Key: 2, N: 3}}, counts{{Key: 1, N: 4}}, counts{{Key: 1, N: 1}}},
		{1, counts{{Key: 2, N: 4}}, counts{{Key: 1, N: 4}}, nil},
		{1, counts{{Key: 6, N: 40}}, counts{{Key: 6, N: 40}}, counts{{Key: 6, N: 80}}},
		{2, counts{{Key: 1, N: 5}, {Key: 2, N: 3}}, counts{{Key: 2, N: 4}, {Key: 3, N: 2}}, counts{{Key: 1, N: 3}, {Key: 2, N: 5}}},
		{2, counts{{Key: 1, N: 5}, {Key: 2, N: 3}}, counts{{Key: 3, N: 4}, {Key: 4, N: 4}}, counts{{Key: 1, N: 1}}}, // the third greatest of 5 4 4 3
		{2, counts{{Key: 1, N: 2}, {Key: 2, N: 2}}, counts{{Key: 3, N: 2}, {Key: 4, N: 9}}, counts{{Key: 4, N: 7}}},
		{3, counts{{Key: 1, N: 2}, {Key: 2, N: 2}, {Key: 3, N: 1}}, counts{{Key: 2, N: 1}}, counts{{Key: 1, N: 2}, {Key: 2, N: 3}, {Key: 3, N: 1}}},
	}
	for _, c := range tests {
		for _, l := range [][2]counts{{c.a, c.b}, {c.b, c.a}} {
			if got, e := sketch.Merge(c.k, l[0], l[1]); !slices.Equal(got, c.want) || e != api.OK {
				t.Errorf("Merge(%v, %v, %v) = %v, %v", c.k, l[0], l[1], got, e)
			}
		}
	}
	// Lists of 8 with all 16 keys between them.
	var a, b counts
	for i := range 8 {
		a = append(a, sketch.Count{Key: 2 * i, N: 1 + i})
		b = append(b, sketch.Count{Key: 2*i + 1, N: 21 - i})
	}
	want := counts{{1, 13, 0}, {3, 12, 0}, {5, 11, 0}, {7, 10, 0}, {9, 9, 0}, {11, 8, 0}, {13, 7, 0}, {15, 6, 0}}
	if got, e := sketch.Merge(8, a, b); !slices.Equal(got, want) || e != api.OK {
		t.Error(got, e)
	}
}

// merged is the term: the sums, less the k+1-st greatest of them.
func merged(k int, a, b counts) counts {
	sums := map[int]int{}
	for _, c := range slices.Concat(a, b) {
		sums[c.Key] += c.N
	}
	var falling []int
	for _, n := range sums {
		falling = append(falling, n)
	}
	slices.Sort(falling)
	slices.Reverse(falling)
	less := 0
	if len(falling) > k {
		less = falling[k]
	}
	var list counts
	for key := range 16 {
		if sums[key] > less {
			list = append(list, sketch.Count{Key: key, N: sums[key] - less})
		}
	}
	return list
}

// P3.3 and P3.8: the term itself, and the promise of Short for two streams and
// their lengths together.
func TestMergeAll(t *testing.T) {
	streams := someStreams()
	next := walk(5)
	for range 4000 {
		k := 1 + next(8)
		s, u := streams[next(len(streams))], streams[next(len(streams))]
		a, _ := sketch.Short(k, s)
		b, _ := sketch.Short(k, u)
		got, e := sketch.Merge(k, a, b)
		if !slices.Equal(got, merged(k, a, b)) || e != api.OK {
			t.Fatalf("Merge(%v, %v, %v) = %v, %v", k, a, b, got, e)
		}
		both := slices.Concat(s, u)
		for key := range 16 {
			n, often := onList(got, key).N, count(both, key)
			if n > often || n < often-len(both)/(k+1) {
				t.Fatalf("Merge(%v, %v, %v) = %v, of %v and %v", k, a, b, got, s, u)
			}
			if often*(k+1) > len(both) && n == 0 {
				t.Fatalf("Merge(%v, %v, %v) = %v without %v", k, a, b, got, key)
			}
		}
	}
}

// notLists are no lists for k 3.
func notLists() []counts {
	return []counts{
		{{Key: 1, N: 1}, {Key: 2, N: 1}, {Key: 3, N: 1}, {Key: 4, N: 1}},
		{{Key: 1, N: 1}, {Key: 1, N: 1}},
		{{Key: 2, N: 1}, {Key: 1, N: 1}},
		{{Key: 1, N: 1}, {Key: 3, N: 1}, {Key: 2, N: 1}},
		{{Key: -1, N: 1}}, {{Key: 16, N: 1}}, {{Key: math.MaxInt, N: 1}}, {{Key: math.MinInt, N: 1}},
		{{Key: 1, N: 0}}, {{Key: 1, N: -1}}, {{Key: 1, N: 41}}, {{Key: 1, N: math.MaxInt}}, {{Key: 1, N: math.MinInt}},
		{{Key: 1, N: 2, Off: 1}}, {{Key: 1, N: 2, Off: -1}}, {{Key: 0, N: 1}, {Key: 1, N: 2, Off: math.MinInt}},
		make(counts, 3), make(counts, 10000),
	}
}

// P3.3
func TestMergeErrors(t *testing.T) {
	good := []counts{nil, {{Key: 0, N: 40}, {Key: 4, N: 1}, {Key: 15, N: 2}}}
	for _, bad := range notLists() {
		for _, l := range append(good, bad) {
			for _, pair := range [][2]counts{{bad, l}, {l, bad}} {
				if got, e := sketch.Merge(3, pair[0], pair[1]); len(got) != 0 || e != api.ErrArg {
					t.Errorf("Merge(3, %v, %v) = %v, %v", pair[0], pair[1], got, e)
				}
			}
		}
	}
	for _, bad := range notCounters() {
		if got, e := sketch.Merge(bad, nil, nil); len(got) != 0 || e != api.ErrArg {
			t.Errorf("Merge(%v, nil, nil) = %v, %v", bad, got, e)
		}
	}
	nine := make(counts, 9)
	for i := range nine {
		nine[i] = sketch.Count{Key: i, N: 1}
	}
	if got, e := sketch.Merge(9, nine, nil); len(got) != 0 || e != api.ErrArg {
		t.Error(got, e)
	}
	// A list for k 2 is none for k 1; what has an Off is none, though Full tells it.
	if got, e := sketch.Merge(1, counts{{Key: 1, N: 1}, {Key: 2, N: 1}}, nil); len(got) != 0 || e != api.ErrArg {
		t.Error(got, e)
	}
	full, _ := sketch.Full(1, []int{1, 2})
	if got, e := sketch.Merge(1, full, nil); len(got) != 0 || e != api.ErrArg {
		t.Error(got, e)
	}
}

// P3.10: Short and Full depend on the order of the stream.
func TestListsOfOtherOrder(t *testing.T) {
	a, _ := sketch.Short(1, []int{1, 2, 3})
	b, _ := sketch.Short(1, []int{1, 3, 2})
	if !slices.Equal(a, counts{{Key: 3, N: 1}}) || !slices.Equal(b, counts{{Key: 2, N: 1}}) {
		t.Error(a, b)
	}
	a, _ = sketch.Full(1, []int{1, 2})
	b, _ = sketch.Full(1, []int{2, 1})
	if !slices.Equal(a, counts{{Key: 2, N: 2, Off: 1}}) || !slices.Equal(b, counts{{Key: 1, N: 2, Off: 1}}) {
		t.Error(a, b)
	}
}
