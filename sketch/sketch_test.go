package sketch_test

import (
	"slices"
	"testing"

	"congou/api"
	"congou/sketch"
)

// P3.2
func TestOften(t *testing.T) {
	for _, stream := range someStreams() {
		for key := range 16 {
			if got, e := sketch.Often(stream, key); got != count(stream, key) || e != api.OK {
				t.Fatalf("Often(%v, %v) = %v, %v", stream, key, got, e)
			}
		}
	}
	if got, e := sketch.Often(nil, 3); got != 0 || e != api.OK {
		t.Error(got, e)
	}
	if got, e := sketch.Often(make([]int, 40), 0); got != 40 || e != api.OK {
		t.Error(got, e)
	}
}

// P3.2
func TestOftenErrors(t *testing.T) {
	for _, bad := range notStreams() {
		if got, e := sketch.Often(bad, 0); got != 0 || e != api.ErrArg {
			t.Errorf("Often(%v, 0) = %v, %v", bad, got, e)
		}
	}
	for _, stream := range [][]int{nil, {1, 1, 2}, {15, 0}} {
		for _, bad := range notKeys() {
			if got, e := sketch.Often(stream, bad); got != 0 || e != api.ErrArg {
				t.Errorf("Often(%v, %v) = %v, %v", stream, bad, got, e)
			}
		}
	}
}

// P3.2
func TestHeavy(t *testing.T) {
	tests := []struct {
		k      int
		stream []int
		want   []int
	}{
		{1, nil, nil},
		{8, nil, nil},
		{1, []int{1, 1, 2, 3, 1}, []int{1}},
		{2, []int{1, 1, 2, 3, 1}, []int{1}},
		{4, []int{1, 1, 2, 3, 1}, []int{1}},
		{5, []int{1, 1, 2, 3, 1}, []int{1, 2, 3}},
		{1, []int{4, 7}, nil},
		{1, []int{4, 7, 4}, []int{4}},
		{1, []int{9}, []int{9}},
		{2, []int{15, 0, 15, 0, 7}, []int{0, 15}},
		{2, []int{2, 2, 1, 1, 0, 0}, nil},
		{3, []int{2, 2, 1, 1, 0, 0}, []int{0, 1, 2}},
		{2, []int{0, 1, 2, 3}, nil},         // 1 is below 4/3
		{2, []int{0, 0, 1, 2, 3}, []int{0}}, // 2 is above 5/3, and 1 is not
		{8, slices.Repeat([]int{5}, 40), []int{5}},
	}
	for _, c := range tests {
		if got, e := sketch.Heavy(c.k, c.stream); !slices.Equal(got, c.want) || e != api.OK {
			t.Errorf("Heavy(%v, %v) = %v, %v", c.k, c.stream, got, e)
		}
	}
}

// P3.2: the term itself.
func TestHeavyAll(t *testing.T) {
	for _, stream := range someStreams() {
		for k := 1; k <= 8; k++ {
			var want []int
			for key := range 16 {
				if count(stream, key) > len(stream)/(k+1) { // a whole number is above a quotient just if it is above its whole part
					want = append(want, key)
				}
			}
			if got, e := sketch.Heavy(k, stream); !slices.Equal(got, want) || e != api.OK {
				t.Fatalf("Heavy(%v, %v) = %v, %v", k, stream, got, e)
			}
		}
	}
}

// P3.2
func TestHeavyErrors(t *testing.T) {
	for _, bad := range notStreams() {
		if got, e := sketch.Heavy(2, bad); len(got) != 0 || e != api.ErrArg {
			t.Errorf("Heavy(2, %v) = %v, %v", bad, got, e)
		}
	}
	for _, bad := range notCounters() {
		for _, stream := range [][]int{nil, {1, 1, 2}} {
			if got, e := sketch.Heavy(bad, stream); len(got) != 0 || e != api.ErrArg {
				t.Errorf("Heavy(%v, %v) = %v, %v", bad, stream, got, e)
			}
		}
	}
}

// Rule 4: no argument is changed, P3.1 to P3.5.
func TestArgumentsStay(t *testing.T) {
	stream, dice := []int{5, 3, 5, 1, 0, 3, 5}, []int{0, 1, 2, 1, 4, 0, 1}
	unchanged(t, func() {
		for k := 1; k <= 8; k++ {
			sketch.Short(k, stream)
			sketch.Full(k, stream)
			sketch.Heavy(k, stream)
			sketch.Keep(k, stream, dice)
		}
		sketch.Often(stream, 5)
		sketch.Table(3, 5, stream)
	}, stream, dice)
	a := []sketch.Count{{Key: 2, N: 3}, {Key: 4, N: 1}}
	b := []sketch.Count{{Key: 1, N: 3}, {Key: 4, N: 7}, {Key: 5, N: 7}}
	unchanged(t, func() {
		sketch.Merge(3, a, b)
		sketch.Merge(3, a[:1], b)
	}, a, b)
	rows, more := [][]int{{1, 2}, {3, 0}}, [][]int{{80, 2}, {3, 0}}
	unchanged(t, func() {
		sketch.Ask(rows, 3)
		sketch.Add(rows, rows)
		sketch.Add(rows, more)
	}, rows[0], rows[1], more[0], more[1])
}

// Rule 4: no result has the memory of an argument or of another result.
func TestResultsAreApart(t *testing.T) {
	stream := []int{5, 3, 5, 1}
	kept, _ := sketch.Keep(2, stream, []int{0, 0, 2, 3})
	kept[0] = 99
	if kept = append(kept, 99); stream[0] != 5 || stream[2] != 5 {
		t.Error("Keep:", stream, kept)
	}
	a := []sketch.Count{{Key: 2, N: 3}}
	merged, _ := sketch.Merge(2, a, nil)
	merged[0].N = 99
	if a[0].N != 3 {
		t.Error("Merge:", a)
	}
	rows := [][]int{{1, 2}, {3, 0}}
	sum, _ := sketch.Add(rows, rows)
	table, _ := sketch.Table(2, 2, stream)
	for _, list := range [][][]int{sum, table} {
		want := cloneRows(list)
		_ = append(list[0], 99, 99)
		list[0][0] = 99
		if !slices.Equal(list[1], want[1]) {
			t.Error("rows:", list)
		}
	}
	if !equalRows(rows, [][]int{{1, 2}, {3, 0}}) {
		t.Error("Add:", rows)
	}
}
