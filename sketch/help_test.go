package sketch_test

import (
	"math"
	"slices"
	"testing"

	"congou/sketch"
)

// walk returns a function that gives numbers below its argument.
func walk(state uint32) func(n int) int {
	return func(n int) int {
		state = state*1664525 + 1013904223
		return int(state>>16) % n
	}
}

// someStreams are all streams of up to 6 of three keys, of up to 4 of five
// keys, and some that a fixed walk comes to, up to the longest ones.
func someStreams() [][]int {
	var list [][]int
	for n := range 7 {
		list = append(list, allStreams(n, 3, 0)...)
	}
	for n := range 5 {
		list = append(list, allStreams(n, 5, 11)...)
	}
	next := walk(7)
	for range 400 {
		list = append(list, walkedStream(next, next(41)))
	}
	list = append(list, slices.Repeat([]int{15}, 40), slices.Repeat([]int{0, 15}, 20))
	return list
}

// allStreams returns all streams of n of the keys from first on.
func allStreams(n, keys, first int) [][]int {
	list := [][]int{{}}
	for range n {
		var longer [][]int
		for _, x := range list {
			for v := range keys {
				longer = append(longer, append(slices.Clone(x), first+v))
			}
		}
		list = longer
	}
	return list
}

// walkedStream returns a stream of n keys, of which the low ones come often in
// some, and all alike in others.
func walkedStream(next func(n int) int, n int) []int {
	var stream []int
	keys := 1 + next(16)
	even := next(2) == 0
	for range n {
		key := next(keys)
		if !even {
			key = next(key + 1)
		}
		stream = append(stream, key)
	}
	return stream
}

// notStreams are slices that are no streams.
func notStreams() [][]int {
	return [][]int{
		{16}, {-1}, {0, 1, 16}, {-1, 0}, {math.MaxInt}, {math.MinInt},
		make([]int, 41), make([]int, 10000), slices.Repeat([]int{16}, 50),
	}
}

func notCounters() []int { return []int{0, -1, 9, math.MaxInt, math.MinInt} }

func notKeys() []int { return []int{-1, 16, math.MaxInt, math.MinInt} }

// count returns how often the key comes in the stream.
func count(stream []int, key int) int {
	n := 0
	for _, v := range stream {
		if v == key {
			n++
		}
	}
	return n
}

// onList returns the Count of the key, or one with N 0.
func onList(list []sketch.Count, key int) sketch.Count {
	for _, c := range list {
		if c.Key == key {
			return c
		}
	}
	return sketch.Count{Key: key}
}

func equalRows(a, b [][]int) bool { return slices.EqualFunc(a, b, slices.Equal) }

func cloneRows(t [][]int) [][]int {
	var out [][]int
	for _, row := range t {
		out = append(out, slices.Clone(row))
	}
	return out
}

// unchanged calls f, after which the slices must be as before.
func unchanged[T comparable](t *testing.T, f func(), list ...[]T) {
	t.Helper()
	var before [][]T
	for _, l := range list {
		before = append(before, slices.Clone(l))
	}
	f()
	for i, l := range list {
		if !slices.Equal(l, before[i]) {
			t.Errorf("%v became %v", before[i], l)
		}
	}
}
