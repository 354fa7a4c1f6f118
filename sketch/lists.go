package sketch

import (
	"cmp"
	"slices"

	"congou/api"
)

// maxN is the greatest N of a Count that Merge takes.
const maxN = 40

// list is a list of at most k counters, rising by Key. Short and full lists
// differ only in what they do with a key that finds no free counter.
type list struct {
	k        int
	counts   []Count
	whenFull func(l *list, key int)
}

// Short returns the short list of a stream.
func Short(k int, stream []int) ([]Count, api.Errno) {
	return fill(list{k: k, whenFull: (*list).lessen}, stream)
}

// Full returns the full list of a stream.
func Full(k int, stream []int) ([]Count, api.Errno) {
	return fill(list{k: k, whenFull: (*list).replaceLeast}, stream)
}

// Merge returns the list of two streams together, by their short lists a and
// b. A key that is on neither list has the sum 0, and there are more keys than
// k, so the k+1-st greatest sum is 0 if at most k keys are on the lists.
func Merge(k int, a, b []Count) ([]Count, api.Errno) {
	if !isCounters(k) || !isList(k, a) || !isList(k, b) {
		return nil, api.ErrArg
	}
	var sums tally
	for _, c := range slices.Concat(a, b) {
		sums[c.Key] += c.N
	}
	rising := sums
	slices.Sort(rising[:])
	less := rising[keyCount-1-k]
	var merged []Count
	for key, n := range sums {
		if n > less {
			merged = append(merged, Count{Key: key, N: n - less})
		}
	}
	return merged, api.OK
}

// fill counts a stream on an empty list.
func fill(l list, stream []int) ([]Count, api.Errno) {
	if !isCounters(l.k) || !isStream(stream) {
		return nil, api.ErrArg
	}
	for _, key := range stream {
		l.add(key)
	}
	return l.counts, api.OK
}

func (l *list) add(key int) {
	at, found := l.find(key)
	switch {
	case found:
		l.counts[at].N++
	case len(l.counts) < l.k:
		l.put(Count{Key: key, N: 1})
	default:
		l.whenFull(l, key)
	}
}

// find returns the index of a key, or where it would be, and whether it is
// there.
func (l *list) find(key int) (int, bool) {
	return slices.BinarySearchFunc(l.counts, key, func(c Count, key int) int {
		return cmp.Compare(c.Key, key)
	})
}

// put puts a Count where its key belongs.
func (l *list) put(c Count) {
	at, _ := l.find(c.Key)
	l.counts = slices.Insert(l.counts, at, c)
}

// lessen takes 1 from all counters; the new key, whichever it is, gets none.
func (l *list) lessen(int) {
	for i := range l.counts {
		l.counts[i].N--
	}
	l.counts = slices.DeleteFunc(l.counts, func(c Count) bool { return c.N == 0 })
}

// replaceLeast gives the key the counter with the least N, the first of
// several, as the list rises by Key.
func (l *list) replaceLeast(key int) {
	least := 0
	for i, c := range l.counts {
		if c.N < l.counts[least].N {
			least = i
		}
	}
	n := l.counts[least].N
	l.counts = slices.Delete(l.counts, least, least+1)
	l.put(Count{Key: key, N: n + 1, Off: n})
}

// isList reports whether l may be a short list with k counters.
func isList(k int, l []Count) bool {
	if len(l) > k {
		return false
	}
	for i, c := range l {
		if !isKey(c.Key) || c.N < 1 || c.N > maxN || c.Off != 0 {
			return false
		}
		if i > 0 && c.Key <= l[i-1].Key {
			return false
		}
	}
	return true
}
