package deals_test

import (
	"math"
	"slices"
	"testing"

	"congou/api"
	"congou/deals"
)

// P5.5
func TestScale(t *testing.T) {
	tests := []struct {
		o    offers
		a, b int
		want offers
		e    api.Errno
	}{
		{offers{{0, 10}, {10, 0}}, 1, 1, offers{{0, 10}, {10, 0}}, api.OK},
		{offers{{10, 0}, {0, 10}, {3, 4}}, 2, 3, offers{{20, 0}, {0, 30}, {6, 12}}, api.OK},
		{offers{{1, 1}, {0, 0}}, 30, 30, offers{{30, 30}, {0, 0}}, api.OK},
		{offers{{0, 1}, {0, 0}}, 30, 1, offers{{0, 1}, {0, 0}}, api.OK},
		{offers{{15, 10}, {14, 3}}, 2, 3, offers{{30, 30}, {28, 9}}, api.OK},
		{offers{{16, 10}, {14, 3}}, 2, 3, nil, api.ErrNone},
		{offers{{15, 11}, {14, 3}}, 2, 3, nil, api.ErrNone},
		{offers{{1, 1}, {2, 2}}, 30, 1, nil, api.ErrNone},
		{offers{{1, 1}, {2, 2}}, 1, 16, nil, api.ErrNone},
		{offers{{30, 30}}, 30, 30, nil, api.ErrNone},
		{offers{{30, 30}}, 1, 1, offers{{30, 30}}, api.OK},
		{offers{{1, 1}}, 0, 1, nil, api.ErrArg},
		{offers{{1, 1}}, 1, 0, nil, api.ErrArg},
		{offers{{1, 1}}, 31, 1, nil, api.ErrArg},
		{offers{{1, 1}}, 1, 31, nil, api.ErrArg},
		{offers{{0, 0}}, 31, 31, nil, api.ErrArg},
		{offers{{2, 2}}, 30, -1, nil, api.ErrArg}, // ErrArg is before ErrNone
		{offers{{2, 2}}, -1, 30, nil, api.ErrArg},
		{offers{{2, 2}}, math.MaxInt, math.MinInt, nil, api.ErrArg},
		{offers{{2, 2}}, math.MinInt, math.MaxInt, nil, api.ErrArg},
	}
	for _, c := range tests {
		if got, e := deals.Scale(c.o, c.a, c.b); !slices.Equal(got, c.want) || e != c.e {
			t.Errorf("Scale(%v, %v, %v) = %v, %v", c.o, c.a, c.b, got, e)
		}
	}
	eachNotOffers(t, func(name string, o offers) {
		if got, e := deals.Scale(o, 1, 1); len(got) != 0 || e != api.ErrArg {
			t.Errorf("%s: Scale = %v, %v", name, got, e)
		}
	})
}

// P5.5
func TestSwap(t *testing.T) {
	for _, o := range slices.Concat(someOffers(), smallOffers()) {
		var want offers
		for _, p := range o {
			want = append(want, [2]int{p[1], p[0]})
		}
		got, e := deals.Swap(o)
		if !slices.Equal(got, want) || e != api.OK {
			t.Errorf("Swap(%v) = %v, %v", o, got, e)
		}
	}
	eachNotOffers(t, func(name string, o offers) {
		if got, e := deals.Swap(o); len(got) != 0 || e != api.ErrArg {
			t.Errorf("%s: Swap = %v, %v", name, got, e)
		}
	})
}

// P5.6
func TestLess(t *testing.T) {
	three := offers{{9, 0}, {1, 1}, {0, 9}}
	tests := []struct {
		o    offers
		drop int
		want offers
		e    api.Errno
	}{
		{three, 0, offers{{1, 1}, {0, 9}}, api.OK},
		{three, 1, offers{{9, 0}, {0, 9}}, api.OK},
		{three, 2, offers{{9, 0}, {1, 1}}, api.OK},
		{three, 3, nil, api.ErrArg},
		{three, -1, nil, api.ErrArg},
		{three, math.MaxInt, nil, api.ErrArg},
		{three, math.MinInt, nil, api.ErrArg},
		{offers{{9, 0}, {1, 1}}, 1, offers{{9, 0}}, api.OK},
		{offers{{4, 5}}, 0, nil, api.ErrNone},
		{offers{{4, 5}}, 1, nil, api.ErrArg}, // ErrArg is before ErrNone
		{offers{{4, 5}}, -1, nil, api.ErrArg},
	}
	for _, c := range tests {
		if got, e := deals.Less(c.o, c.drop); !slices.Equal(got, c.want) || e != c.e {
			t.Errorf("Less(%v, %v) = %v, %v", c.o, c.drop, got, e)
		}
	}
	eachNotOffers(t, func(name string, o offers) {
		if got, e := deals.Less(o, 0); len(got) != 0 || e != api.ErrArg {
			t.Errorf("%s: Less = %v, %v", name, got, e)
		}
	})
}

// P5.5 and P5.6: what they return is new, and no argument is changed.
func TestOffersAreNew(t *testing.T) {
	for _, o := range someOffers() {
		before := slices.Clone(o)
		scaled, _ := deals.Scale(o, 1, 1)
		swapped, _ := deals.Swap(o)
		if len(scaled) != len(o) || len(swapped) != len(o) {
			t.Fatal(o, scaled, swapped)
		}
		lists := []offers{scaled, swapped}
		for drop := range o {
			less, _ := deals.Less(o, drop)
			lists = append(lists, less)
		}
		for _, l := range lists {
			for i := range l {
				l[i] = [2]int{-7, -7}
			}
			if !slices.Equal(o, before) {
				t.Fatalf("%v became %v", before, o)
			}
		}
	}
}
