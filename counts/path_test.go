package counts_test

import (
	"math"
	"slices"
	"testing"

	"congou/api"
	"congou/counts"
)

// P6.5
func TestSwap(t *testing.T) {
	tests := []struct {
		x    table
		at   [4]int
		want table
	}{
		{table{{1, 0}, {0, 1}}, [4]int{0, 1, 1, 0}, table{{0, 1}, {1, 0}}},
		{table{{1, 0}, {0, 1}}, [4]int{1, 0, 0, 1}, table{{0, 1}, {1, 0}}},
		{table{{3, 1}, {1, 3}}, [4]int{0, 1, 0, 1}, table{{4, 0}, {0, 4}}},
		{table{{3, 1}, {1, 3}}, [4]int{0, 1, 1, 0}, table{{2, 2}, {2, 2}}},
		{table{{0, 2, 1}, {5, 1, 3}}, [4]int{0, 1, 0, 2}, table{{1, 2, 0}, {4, 1, 4}}},
		{table{{1, 1, 1}, {1, 1, 1}, {1, 1, 1}}, [4]int{2, 0, 1, 2}, table{{1, 0, 2}, {1, 1, 1}, {1, 2, 0}}},
		{table{{0, 16}, {0, 0}}, [4]int{0, 1, 0, 1}, nil},
		{table{{16, 0}, {0, 0}}, [4]int{0, 1, 1, 0}, nil},
		{table{{1, 0}, {0, 1}}, [4]int{0, 1, 0, 1}, nil},
		{table{{0, 1}, {0, 1}}, [4]int{0, 1, 0, 1}, nil}, // only one of both is there
		{table{{1, 0}, {1, 0}}, [4]int{0, 1, 0, 1}, nil},
		{table{{0, 0, 0}, {0, 0, 0}, {0, 0, 0}}, [4]int{0, 2, 0, 2}, nil},
	}
	for _, c := range tests {
		got, e := counts.Swap(c.x, c.at[0], c.at[1], c.at[2], c.at[3])
		want := api.OK
		if c.want == nil {
			want = api.ErrNone
		}
		if !isSame(got, c.want) || e != want {
			t.Errorf("Swap(%v, %v) = %v, %v", c.x, c.at, got, e)
		}
	}
}

// P6.5: the words of the chapter.
func TestSwapAll(t *testing.T) {
	ok, none := 0, 0
	for _, x := range slices.Concat(someTables(), smallTables()) {
		eachSwap(x, func(i, j, k, l int) {
			before := clone(x)
			want, there := swapOf(x, i, j, k, l)
			got, e := counts.Swap(x, i, j, k, l)
			if !there {
				none++
				if len(got) != 0 || e != api.ErrNone {
					t.Fatalf("Swap(%v, %v, %v, %v, %v) = %v, %v", x, i, j, k, l, got, e)
				}
				return
			}
			ok++
			if !isSame(got, want) || e != api.OK {
				t.Fatalf("Swap(%v, %v, %v, %v, %v) = %v, %v", x, i, j, k, l, got, e)
			}
			spoil(got[:1])
			if !isSame(x, before) || !isSame(got[1:], want[1:]) {
				t.Fatalf("%v became %v, %v", before, x, got)
			}
		})
	}
	if ok < 1000 || none < 1000 {
		t.Error(ok, none)
	}
}

// P6.5
func TestSwapErrors(t *testing.T) {
	eachNotTable(t, func(name string, x table) {
		if got, e := counts.Swap(x, 0, 1, 0, 1); len(got) != 0 || e != api.ErrArg {
			t.Errorf("%s: Swap = %v, %v", name, got, e)
		}
	})
	full := table{{1, 1, 1}, {1, 1, 1}}
	for _, at := range [][4]int{
		{0, 0, 0, 1}, {1, 1, 0, 1}, {0, 1, 2, 2}, {0, 0, 0, 0}, {0, 1, 0, 0},
		{0, 2, 0, 1}, {2, 0, 0, 1}, {0, 1, 0, 3}, {0, 1, 3, 0}, {0, 1, 3, 4},
		{-1, 0, 0, 1}, {0, -1, 0, 1}, {0, 1, -1, 0}, {0, 1, 0, -1}, {-2, -1, 0, 1}, {0, 1, -2, -1},
		{math.MaxInt, 0, 0, 1}, {0, math.MaxInt, 0, 1}, {0, 1, math.MaxInt, 0}, {0, 1, 0, math.MaxInt},
		{math.MinInt, 0, 0, 1}, {0, math.MinInt, 0, 1}, {0, 1, math.MinInt, 0}, {0, 1, 0, math.MinInt},
	} {
		if got, e := counts.Swap(full, at[0], at[1], at[2], at[3]); len(got) != 0 || e != api.ErrArg {
			t.Errorf("Swap(%v) = %v, %v", at, got, e)
		}
	}
	for _, x := range []table{{{5}}, {{5, 5}}, {{5}, {5}}, {{0, 0, 0}}, {{0}, {0}, {0}}} {
		if got, e := counts.Swap(x, 0, 1, 0, 1); len(got) != 0 || e != api.ErrArg {
			t.Errorf("Swap(%v) = %v, %v", x, got, e)
		}
	}
}

// P6.5
func TestPath(t *testing.T) {
	tests := []struct {
		s, t table
		want []table
	}{
		{table{{4, 0}, {0, 4}}, table{{2, 2}, {2, 2}}, []table{{{4, 0}, {0, 4}}, {{3, 1}, {1, 3}}, {{2, 2}, {2, 2}}}},
		{table{{2, 2}, {2, 2}}, table{{4, 0}, {0, 4}}, []table{{{2, 2}, {2, 2}}, {{3, 1}, {1, 3}}, {{4, 0}, {0, 4}}}},
		{table{{1, 0}, {0, 1}}, table{{0, 1}, {1, 0}}, []table{{{1, 0}, {0, 1}}, {{0, 1}, {1, 0}}}},
		{table{{3, 1}, {1, 3}}, table{{3, 1}, {1, 3}}, []table{{{3, 1}, {1, 3}}}},
		{table{{0}}, table{{0}}, []table{{{0}}}},
		{table{{1, 2, 3}}, table{{1, 2, 3}}, []table{{{1, 2, 3}}}},
		{table{{0, 0}, {0, 0}}, table{{0, 0}, {0, 0}}, []table{{{0, 0}, {0, 0}}}},
		{table{{0, 8}, {8, 0}}, table{{1, 7}, {7, 1}}, []table{{{0, 8}, {8, 0}}, {{1, 7}, {7, 1}}}},
	}
	for _, c := range tests {
		if got, e := counts.Path(c.s, c.t); !areSame(got, c.want) || e != api.OK {
			t.Errorf("Path(%v, %v) = %v, %v", c.s, c.t, got, e)
		}
	}
}

// stepsFrom returns how many swaps at least come from s to each table of its
// family, in the order of the family: for each round all that one more comes to.
func stepsFrom(all []table, s table) []int {
	steps := make([]int, len(all))
	round := []table{s}
	for n := 1; len(round) > 0; n++ {
		var next []table
		for _, x := range round {
			i, _ := slices.BinarySearchFunc(all, x, compare)
			if steps[i] != 0 {
				continue
			}
			steps[i] = n
			eachSwap(x, func(i, j, k, l int) {
				if y, ok := swapOf(x, i, j, k, l); ok {
					next = append(next, y)
				}
			})
		}
		round = next
	}
	return steps
}

// P6.5, P6.9: Path is OK for any two tables of a family, and no path is shorter.
func TestPathAll(t *testing.T) {
	pairs, long := 0, 0
	for _, s := range slices.Concat(someTables(), smallTables()) {
		all := family(t, s)
		steps := stepsFrom(all, s)
		for i, x := range all {
			before := clone(s)
			got, e := counts.Path(s, x)
			if e != api.OK || len(got) != steps[i] || !isPath(s, x, got) {
				t.Fatalf("Path(%v, %v) = %v, %v, not %v tables", s, x, got, e, steps[i])
			}
			if ok, e := counts.CheckPath(s, x, got); !ok || e != api.OK {
				t.Fatalf("CheckPath(%v, %v, %v) = %v, %v", s, x, got, ok, e)
			}
			pairs++
			long = max(long, len(got))
			rest := cloneAll(got[1:])
			spoil(got[0])
			if !isSame(s, before) || !areSame(got[1:], rest) {
				t.Fatalf("%v became %v, %v", before, s, got)
			}
		}
	}
	if pairs < 3000 || long < 10 {
		t.Error(pairs, long)
	}
}

func isPath(s, x table, l []table) bool {
	if len(l) == 0 || !isSame(l[0], s) || !isSame(l[len(l)-1], x) {
		return false
	}
	for i := range l[1:] {
		if !isSwap(l[i], l[i+1]) {
			return false
		}
	}
	return true
}

// P6.5
func TestPathErrors(t *testing.T) {
	eachNotTable(t, func(name string, x table) {
		for _, other := range []table{{{1, 1}, {1, 1}}, {{16}}, x} {
			if got, e := counts.Path(x, other); len(got) != 0 || e != api.ErrArg {
				t.Errorf("%s: Path(_, %v) = %v, %v", name, other, got, e)
			}
			if got, e := counts.Path(other, x); len(got) != 0 || e != api.ErrArg {
				t.Errorf("%s: Path(%v, _) = %v, %v", name, other, got, e)
			}
		}
	})
	tests := []struct{ s, t table }{
		{table{{1, 0}, {0, 1}}, table{{1, 0}, {1, 0}}}, // the same rows only
		{table{{1, 0}, {0, 1}}, table{{1, 1}, {0, 0}}}, // the same columns only
		{table{{1, 0}, {0, 1}}, table{{1, 0}, {0, 2}}},
		{table{{0}}, table{{1}}},
		{table{{1, 1}}, table{{1, 1, 0}}}, // the same but for what is 0
		{table{{1, 1}}, table{{1, 1}, {0, 0}}},
		{table{{0}}, table{{0, 0}, {0, 0}}},
		{table{{1, 2}}, table{{1}, {2}}},
		{table{{1, 0}, {0, 1}}, table{{1, 0, 0}, {0, 1, 0}, {0, 0, 0}}},
	}
	for _, c := range tests {
		for _, pair := range [][2]table{{c.s, c.t}, {c.t, c.s}} {
			if got, e := counts.Path(pair[0], pair[1]); len(got) != 0 || e != api.ErrNone {
				t.Errorf("Path(%v, %v) = %v, %v", pair[0], pair[1], got, e)
			}
			if ok, e := counts.CheckPath(pair[0], pair[1], []table{pair[0], pair[1]}); ok || e != api.OK {
				t.Errorf("CheckPath(%v, %v) = %v, %v", pair[0], pair[1], ok, e)
			}
		}
	}
}

// P6.5
func TestCheckPath(t *testing.T) {
	a, b, c := table{{4, 0}, {0, 4}}, table{{3, 1}, {1, 3}}, table{{2, 2}, {2, 2}}
	tests := []struct {
		s, t table
		l    []table
		want bool
	}{
		{a, c, []table{a, b, c}, true},
		{c, a, []table{c, b, a}, true},
		{a, b, []table{a, b}, true},
		{a, a, []table{a}, true},
		{a, a, []table{a, b, a}, true}, // it need not be the shortest one
		{a, c, []table{a, b, a, b, c, b, c}, true},
		{a, c, nil, false},
		{a, a, nil, false},
		{a, a, []table{}, false},
		{a, c, []table{a, c}, false},    // two swaps
		{a, a, []table{a, a}, false},    // none
		{a, b, []table{a, b, b}, false}, // none at the end
		{a, c, []table{b, c}, false},    // not from a
		{a, c, []table{a, b}, false},    // not to c
		{a, c, []table{c, b, a}, false}, // the other way
		{a, c, []table{a, b, c, b}, false},
		{a, c, []table{a, nil, c}, false},
		{a, c, []table{nil, b, c}, false},
		{a, c, []table{a, b, nil}, false},
		{a, c, []table{a, {{3, 1}}, c}, false},
		{a, c, []table{a, {{3, 1}, {1}}, c}, false},
		{a, c, []table{a, {{3, 1}, {1, 3, 0}}, c}, false},
		{a, c, []table{a, {{3, 1}, {1, 3, 0, 5}}, c}, false},
		{a, c, []table{a, {{3, 1, 0}, {1, 3, 0}}, c}, false}, // of another form
		{a, c, []table{a, {{3, 1}, {1, 3}, {0, 0}}, c}, false},
		{a, a, []table{a, {{5, -1}, {-1, 5}}, a}, false}, // no table, though the numbers are changed so
		{a, a, []table{a, {{4, 0}, {0, 5}}, a}, false},
		{a, c, []table{a, {{math.MaxInt, 1}, {1, 3}}, c}, false},
		{table{{1, 1}}, table{{1, 1}}, []table{{{1, 1}}}, true},
		{table{{1, 1}}, table{{1, 1}}, []table{{{1, 1}, {0, 0}}}, false},
		{table{{0}}, table{{0}}, []table{{{0}}}, true},
		{
			table{{1, 0, 0}, {0, 1, 0}, {0, 0, 1}}, table{{0, 1, 0}, {0, 0, 1}, {1, 0, 0}},
			[]table{{{1, 0, 0}, {0, 1, 0}, {0, 0, 1}}, {{0, 1, 0}, {1, 0, 0}, {0, 0, 1}}, {{0, 1, 0}, {0, 0, 1}, {1, 0, 0}}}, true,
		},
		{
			table{{1, 0, 0}, {0, 1, 0}, {0, 0, 1}}, table{{0, 1, 0}, {0, 0, 1}, {1, 0, 0}}, // three in a round are no swap
			[]table{{{1, 0, 0}, {0, 1, 0}, {0, 0, 1}}, {{0, 1, 0}, {0, 0, 1}, {1, 0, 0}}}, false,
		},
	}
	for _, c := range tests {
		before := cloneAll(c.l)
		if ok, e := counts.CheckPath(c.s, c.t, c.l); ok != c.want || e != api.OK {
			t.Errorf("CheckPath(%v, %v, %v) = %v, %v", c.s, c.t, c.l, ok, e)
		}
		if !areSame(c.l, before) {
			t.Errorf("%v became %v", before, c.l)
		}
	}
}

// P6.5: two tables of a family are a path just if the second one is a swap of
// the first one.
func TestCheckPathOfTwo(t *testing.T) {
	yes, no := 0, 0
	for _, s := range someTables()[:60] {
		for _, x := range family(t, s) {
			want := isSwap(s, x)
			if ok, e := counts.CheckPath(s, x, []table{s, x}); ok != want || e != api.OK {
				t.Fatalf("CheckPath(%v, %v) = %v, %v", s, x, ok, e)
			}
			if want {
				yes++
			} else {
				no++
			}
		}
	}
	if yes < 100 || no < 100 {
		t.Error(yes, no)
	}
}

// P6.5: what is no table in s or t is an error, also where l is no path.
func TestCheckPathErrors(t *testing.T) {
	eachNotTable(t, func(name string, x table) {
		other := table{{1, 1}, {1, 1}}
		for _, l := range [][]table{nil, {x}, {other}, {x, x}, {other, x}} {
			if ok, e := counts.CheckPath(x, other, l); ok || e != api.ErrArg {
				t.Errorf("%s: CheckPath(_, %v, %v) = %v, %v", name, other, l, ok, e)
			}
			if ok, e := counts.CheckPath(other, x, l); ok || e != api.ErrArg {
				t.Errorf("%s: CheckPath(%v, _, %v) = %v, %v", name, other, l, ok, e)
			}
			if ok, e := counts.CheckPath(x, x, l); ok || e != api.ErrArg {
				t.Errorf("%s: CheckPath(_, _, %v) = %v, %v", name, l, ok, e)
			}
		}
		for _, l := range [][]table{{other, x, other}, {x, other}, {x}} {
			if ok, e := counts.CheckPath(other, other, l); ok || e != api.OK {
				t.Errorf("%s: CheckPath(%v, %v, %v) = %v, %v", name, other, other, l, ok, e)
			}
		}
	})
}
