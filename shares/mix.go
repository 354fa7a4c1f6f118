package shares

import (
	"cmp"
	"slices"

	"congou/api"
)

// The greatest common multiples of the Dens of a mixture: of one that Mix,
// CheckMix and the Fracs of a split are asked for, and of one to be split.
const (
	maxDen      = 10_000_000
	maxSplitDen = 10_000
)

// table is a matrix of fractions with one denominator.
type table struct {
	num [][]int
	den int
}

// Mix returns a mixture that mixes x into y.
func Mix(x, y []int) ([][]api.Frac, api.Errno) {
	if !areComparable(x, y) {
		return nil, api.ErrArg
	}
	orderX, orderY := fallingOrder(x), fallingOrder(y)
	sortedX, sortedY := falling(x), falling(y)
	if !dominates(sortedX, sortedY) {
		return nil, api.ErrNone
	}
	t := mixByGives(sortedX, findGives(sortedX, sortedY))
	m := make([][]api.Frac, len(x))
	for i, row := range t.num {
		fracs := make([]api.Frac, len(x))
		for j, n := range row {
			fracs[orderX[j]] = fraction(n, t.den)
		}
		m[orderY[i]] = fracs
	}
	return m, api.OK
}

// CheckMix reports whether m is a mixture that mixes x into y.
func CheckMix(x, y []int, m [][]api.Frac) (bool, api.Errno) {
	if !areComparable(x, y) {
		return false, api.ErrArg
	}
	t, ok := readMixture(m, maxDen)
	if !ok || len(m) != len(x) {
		return false, api.OK
	}
	for i, row := range t.num {
		sum := 0
		for j, n := range row {
			sum += n * x[j]
		}
		if sum != y[i]*t.den {
			return false, api.OK
		}
	}
	return true, api.OK
}

// fallingOrder returns the indices of the numbers of x, from that of the
// greatest one to that of the least one.
func fallingOrder(x []int) []int {
	order := make([]int, len(x))
	for i := range order {
		order[i] = i
	}
	slices.SortStableFunc(order, func(i, j int) int { return cmp.Compare(x[j], x[i]) })
	return order
}

// mixByGives returns the mixture that does to x what the gives do, one after
// the other: each exchanges the shares From and To in part. At most 5 gives
// come here, each with a difference up to 20, so den is at most 20^5.
func mixByGives(x []int, l []Give) table {
	t := table{num: identity(len(x)), den: 1}
	state := slices.Clone(x)
	for _, g := range l {
		part := fraction(g.Much, state[g.From]-state[g.To])
		t.exchange(g.From, g.To, part)
		do(state, g)
	}
	return t
}

func identity(n int) [][]int {
	rows := make([][]int, n)
	for i := range rows {
		rows[i] = make([]int, n)
		rows[i][i] = 1
	}
	return rows
}

// exchange exchanges the given part of row a for as much of row b.
func (t *table) exchange(a, b int, part api.Frac) {
	for i, row := range t.num {
		if i == a || i == b {
			continue
		}
		for j := range row {
			row[j] *= part.Den
		}
	}
	kept := part.Den - part.Num
	for j := range t.num[a] {
		inA, inB := t.num[a][j], t.num[b][j]
		t.num[a][j] = kept*inA + part.Num*inB
		t.num[b][j] = part.Num*inA + kept*inB
	}
	t.den *= part.Den
}

// readMixture returns m as a table with the least common denominator, and
// whether m is a mixture whose Dens have a common multiple up to limit.
func readMixture(m [][]api.Frac, limit int) (table, bool) {
	size := len(m)
	if size < 1 || size > api.MaxShares {
		return table{}, false
	}
	var all []api.Frac
	for _, row := range m {
		if len(row) != size {
			return table{}, false
		}
		all = append(all, row...)
	}
	den, ok := commonDen(all, limit)
	if !ok {
		return table{}, false
	}
	t := table{den: den}
	for _, row := range m {
		t.num = append(t.num, numerators(row, den))
	}
	return t, t.sumsToOne()
}

// sumsToOne reports whether every row and every column sums to 1.
func (t table) sumsToOne() bool {
	for i := range t.num {
		row, column := 0, 0
		for j := range t.num {
			row += t.num[i][j]
			column += t.num[j][i]
		}
		if row != t.den || column != t.den {
			return false
		}
	}
	return true
}

// commonDen returns the least common multiple of the Dens, and whether all are
// valid Fracs from 0 to 1 and it is at most limit.
func commonDen(list []api.Frac, limit int) (int, bool) {
	den := 1
	for _, f := range list {
		if f.Den < 1 || f.Den > limit || f.Num < 0 || f.Num > f.Den || gcd(f.Num, f.Den) != 1 {
			return 0, false
		}
		den *= f.Den / gcd(den, f.Den)
		if den > limit {
			return 0, false
		}
	}
	return den, true
}

// numerators returns the numerators of the fractions over den, a multiple of
// their Dens.
func numerators(list []api.Frac, den int) []int {
	out := make([]int, len(list))
	for i, f := range list {
		out[i] = f.Num * (den / f.Den)
	}
	return out
}

// fraction returns num/den in lowest terms, for num from 0 and den from 1 on.
func fraction(num, den int) api.Frac {
	g := gcd(num, den)
	return api.Frac{Num: num / g, Den: den / g}
}

func gcd(a, b int) int {
	for b != 0 {
		a, b = b, a%b
	}
	return a
}
