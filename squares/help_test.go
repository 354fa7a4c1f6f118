package squares_test

import (
	"fmt"
	"math"
	"math/bits"
	"slices"
	"testing"

	"congou/api"
	"congou/squares"
)

type puzzle = squares.Puzzle

// blocksOf are the blocks of a line by the words of the chapter.
func blocksOf(n, line int) []int {
	var list []int
	for i := range n {
		if line>>i&1 == 0 {
			continue
		}
		if i == 0 || line>>(i-1)&1 == 0 {
			list = append(list, 0)
		}
		list[len(list)-1]++
	}
	return list
}

// linesOf are all lines with these blocks, rising.
func linesOf(n int, clue []int) []int {
	var list []int
	for line := range 1 << n {
		if slices.Equal(blocksOf(n, line), clue) {
			list = append(list, line)
		}
	}
	return list
}

// cluesFor returns all clues for n squares, in order.
func cluesFor(n int) [][]int {
	var list [][]int
	for line := range 1 << n {
		list = append(list, blocksOf(n, line))
	}
	slices.SortFunc(list, slices.Compare[[]int])
	return slices.CompactFunc(list, slices.Equal[[]int])
}

// turnedPicture returns the columns of a picture as rows.
func turnedPicture(w int, picture []int) []int {
	list := make([]int, w)
	for r, row := range picture {
		for c := range w {
			if row>>c&1 == 1 {
				list[c] |= 1 << r
			}
		}
	}
	return list
}

// mirroredPicture returns a picture with the columns in the other order.
func mirroredPicture(w int, picture []int) []int {
	list := turnedPicture(w, picture)
	slices.Reverse(list)
	return turnedPicture(len(picture), list)
}

// cluesOf is the Puzzle of a picture, by the words of the chapter.
func cluesOf(w int, picture []int) puzzle {
	var p puzzle
	for _, row := range picture {
		p.Rows = append(p.Rows, blocksOf(w, row))
	}
	for _, column := range turnedPicture(w, picture) {
		p.Columns = append(p.Columns, blocksOf(len(picture), column))
	}
	return p
}

func isSame(p, q puzzle) bool {
	return slices.EqualFunc(p.Rows, q.Rows, slices.Equal[[]int]) && slices.EqualFunc(p.Columns, q.Columns, slices.Equal[[]int])
}

func clone(p puzzle) puzzle {
	var q puzzle
	for _, clue := range p.Rows {
		q.Rows = append(q.Rows, slices.Clone(clue))
	}
	for _, clue := range p.Columns {
		q.Columns = append(q.Columns, slices.Clone(clue))
	}
	return q
}

func isZero(p puzzle) bool { return len(p.Rows) == 0 && len(p.Columns) == 0 }

// spoil changes all numbers of a slice, up to its capacity.
func spoil(list []int) {
	list = list[:cap(list)]
	for i := range list {
		list[i] = -7
	}
}

// eachSize calls f with all sizes of at most this many squares.
func eachSize(most int, f func(h, w int)) {
	for h := 1; h <= 5; h++ {
		for w := 1; w <= 5; w++ {
			if h*w <= most {
				f(h, w)
			}
		}
	}
}

// pictures returns all pictures of one size, in order.
func pictures(h, w int) [][]int {
	var list [][]int
	for i := range 1 << (h * w) {
		picture := make([]int, h)
		for r := range picture {
			picture[r] = i >> ((h - 1 - r) * w) & (1<<w - 1)
		}
		list = append(list, picture)
	}
	return list
}

func keyOf(p puzzle) string { return fmt.Sprint(p.Rows, p.Columns) }

// solutionsOf returns the solutions of all Puzzles of one size that have some,
// in order: all pictures, by their clues.
func solutionsOf(h, w int) map[string][][]int {
	list := map[string][][]int{}
	for _, picture := range pictures(h, w) {
		key := keyOf(cluesOf(w, picture))
		list[key] = append(list[key], picture)
	}
	return list
}

// puzzles returns all Puzzles of one size, with solutions or none.
func puzzles(h, w int) []puzzle {
	var list []puzzle
	for _, rows := range choices(cluesFor(w), h) {
		for _, columns := range choices(cluesFor(h), w) {
			list = append(list, clone(puzzle{rows, columns}))
		}
	}
	return list
}

// choices returns all lists of n of these clues.
func choices(clues [][]int, n int) [][][]int {
	if n == 0 {
		return [][][]int{nil}
	}
	var list [][][]int
	for _, rest := range choices(clues, n-1) {
		for _, clue := range clues {
			list = append(list, append(slices.Clone(rest), clue))
		}
	}
	return list
}

// hard are pictures that are the one solution, for which squares must be tried filled, not
// just empty: else the depth is 2.
var hard = [][]int{{24, 19, 6, 4, 1}, {10, 20, 6, 9, 1}, {12, 18, 24, 5, 2}}

// somePuzzles are Puzzles with solutions of all sizes: some of which lines alone
// settle nothing or little, and those of pictures that a fixed walk comes to.
func somePuzzles() []puzzle {
	list := []puzzle{
		cluesOf(4, []int{6, 9}), cluesOf(2, []int{2, 1, 1, 2}),
		cluesOf(5, []int{6, 9, 0, 0, 0}), cluesOf(5, []int{14, 17, 0, 0, 0}), cluesOf(5, []int{17, 14, 0, 0}),
		cluesOf(5, []int{1, 2, 4, 8, 16}), cluesOf(5, []int{5, 10, 21, 10, 5}),
		cluesOf(5, []int{0, 0, 0, 0, 0}), cluesOf(5, []int{31, 31, 31, 31, 31}),
		cluesOf(5, []int{31, 17, 21, 17, 31}), cluesOf(4, []int{9, 6, 0, 0}),
		cluesOf(5, hard[0]), cluesOf(5, hard[1]), cluesOf(5, hard[2]),
		cluesOf(1, []int{1}), cluesOf(1, []int{0}), cluesOf(5, []int{21}), cluesOf(1, []int{1, 0, 1, 1, 0}),
	}
	next := walk(7)
	for range 400 {
		h, w := 1+next(5), 1+next(5)
		picture := make([]int, h)
		for r := range picture {
			picture[r] = next(1 << w)
		}
		list = append(list, cluesOf(w, picture))
	}
	return list
}

// walk returns a function that gives numbers below its argument.
func walk(state uint32) func(n int) int {
	return func(n int) int {
		state = state*1664525 + 1013904223
		return int(state>>16) % n
	}
}

// solve returns all solutions, in order, row by row: each row with all lines of
// its clue.
func solve(p puzzle) [][]int {
	var list [][]int
	w := len(p.Columns)
	var fill func(picture []int)
	fill = func(picture []int) {
		if len(picture) == len(p.Rows) {
			if isSame(cluesOf(w, picture), p) {
				list = append(list, slices.Clone(picture))
			}
			return
		}
		for _, line := range linesOf(w, p.Rows[len(picture)]) {
			fill(append(slices.Clone(picture), line))
		}
	}
	fill(nil)
	return list
}

// grid is what is known of each square: '#', '.' or '?'.
type grid [5][5]byte

func gridOf(p puzzle) grid {
	var g grid
	for r := range p.Rows {
		for c := range p.Columns {
			g[r][c] = '?'
		}
	}
	return g
}

func (g grid) isAll() bool {
	for _, row := range g {
		if slices.Contains(row[:], '?') {
			return false
		}
	}
	return true
}

// byLine settles the squares of a line by the words of the chapter: ok is false
// if the line is broken.
func byLine(clue []int, line []*byte) (isNew, ok bool) {
	var agree []int
	for _, l := range linesOf(len(line), clue) {
		fits := true
		for i, square := range line {
			fits = fits && (*square == '?' || *square == letter(l, i))
		}
		if fits {
			agree = append(agree, l)
		}
	}
	if len(agree) == 0 {
		return false, false
	}
	for i, square := range line {
		first := letter(agree[0], i)
		same := !slices.ContainsFunc(agree, func(l int) bool { return letter(l, i) != first })
		if same && *square == '?' {
			*square, isNew = first, true
		}
	}
	return isNew, true
}

func letter(line, i int) byte {
	if line>>i&1 == 1 {
		return '#'
	}
	return '.'
}

// byLines settles by lines alone, by the words of the chapter.
func byLines(p puzzle, g grid) (grid, bool) {
	for {
		some := false
		for r, clue := range p.Rows {
			var line []*byte
			for c := range p.Columns {
				line = append(line, &g[r][c])
			}
			isNew, ok := byLine(clue, line)
			if !ok {
				return g, false
			}
			some = some || isNew
		}
		for c, clue := range p.Columns {
			var line []*byte
			for r := range p.Rows {
				line = append(line, &g[r][c])
			}
			isNew, ok := byLine(clue, line)
			if !ok {
				return g, false
			}
			some = some || isNew
		}
		if !some {
			return g, true
		}
	}
}

// settle settles with depths up to this one, by the words of the chapter: as
// soon as a square is settled, lines are tried again.
func settle(p puzzle, g grid, depth int) (grid, bool) {
	for {
		var ok bool
		if g, ok = byLines(p, g); !ok || depth == 0 {
			return g, ok
		}
		before := g
	search:
		for r := range p.Rows {
			for c := range p.Columns {
				if g[r][c] != '?' {
					continue
				}
				for _, way := range []byte("#.") {
					other := g
					other[r][c] = way
					if _, ok := settle(p, other, depth-1); !ok {
						g[r][c] = '#' + '.' - way
						break search
					}
				}
			}
		}
		if g == before {
			return g, true
		}
	}
}

// rowsOf returns the set of the squares of each row with this letter.
func rowsOf(p puzzle, g grid, letter byte) []int {
	list := make([]int, len(p.Rows))
	for r := range p.Rows {
		for c := range p.Columns {
			if g[r][c] == letter {
				list[r] |= 1 << c
			}
		}
	}
	return list
}

// tryOf is the depth of a Puzzle with one solution, by the words of the chapter.
func tryOf(p puzzle) int {
	for depth := 0; ; depth++ {
		if g, _ := settle(p, gridOf(p), depth); g.isAll() {
			return depth
		}
	}
}

func countFilled(picture []int) int {
	n := 0
	for _, row := range picture {
		n += bits.OnesCount(uint(row))
	}
	return n
}

// notSizes are numbers of squares that no line has.
var notSizes = []int{0, 6, 7, 64, 100, -1, -5, math.MaxInt, math.MinInt}

// notPuzzles are what is none.
func notPuzzles() map[string]puzzle {
	one := [][]int{{1}}
	empty := func(n int) [][]int { return make([][]int, n) }
	return map[string]puzzle{
		"nothing":                  {},
		"no rows":                  {nil, one},
		"no columns":               {one, nil},
		"no rows, but empty":       {[][]int{}, empty(2)},
		"six rows":                 {empty(6), empty(2)},
		"six columns":              {empty(2), empty(6)},
		"many rows":                {empty(10000), empty(2)},
		"many columns":             {empty(2), empty(10000)},
		"0 in a row":               {[][]int{{0}}, empty(1)},
		"0 in a column":            {empty(1), [][]int{{0}}},
		"0 after 1":                {[][]int{{1, 0}}, empty(5)},
		"0 before 1":               {[][]int{{0, 1}}, empty(5)},
		"-1":                       {[][]int{{1}, {-1}}, empty(2)},
		"-1 in a column":           {empty(2), [][]int{{1}, {-1}}},
		"-1 that makes room":       {[][]int{{-1, 6}}, empty(5)},
		"too long a row":           {[][]int{{3}}, empty(2)},
		"too long a column":        {empty(2), [][]int{{3}}},
		"too long for five":        {[][]int{{6}}, empty(5)},
		"rows as long as columns":  {[][]int{{3}, nil, nil}, empty(2)},
		"columns as long as rows":  {empty(2), [][]int{{3}, nil, nil}},
		"two that do not fit":      {[][]int{{1, 1}}, empty(2)},
		"two in a column":          {empty(2), [][]int{{1, 1}}},
		"three that do not fit":    {[][]int{nil, {1, 1, 1}}, empty(4)},
		"two of five":              {[][]int{{2, 3}}, empty(5)},
		"four":                     {[][]int{{1, 1, 1, 1}}, empty(5)},
		"many":                     {[][]int{slices.Repeat([]int{1}, 10000)}, empty(5)},
		"the greatest":             {[][]int{{math.MaxInt}}, empty(5)},
		"the greatest twice":       {[][]int{{math.MaxInt, math.MaxInt}}, empty(5)},
		"the least":                {[][]int{{math.MinInt}}, empty(5)},
		"the least in a column":    {empty(3), [][]int{{1}, {math.MinInt}}},
		"around":                   {[][]int{{math.MaxInt, math.MinInt}}, empty(5)},
		"the last column":          {one, [][]int{{1}, {1}, {1}, {1}, {2}}},
		"the last row":             {[][]int{{1}, {1}, {1}, {1}, {2}}, one},
		"six rows and columns":     {empty(6), empty(6)},
		"five and six":             {empty(5), empty(6)},
		"no row but five columns":  {nil, empty(5)},
		"no column but five rows":  {empty(5), nil},
		"a clue of six in six":     {[][]int{{6}}, empty(6)},
		"a long row of all others": {[][]int{{5}, {5}, {5}, {5}, {1, 4}}, empty(5)},
	}
}

// eachNotPuzzle calls f with what is no Puzzle, and that must stay.
func eachNotPuzzle(t *testing.T, f func(name string, p puzzle)) {
	t.Helper()
	for name, p := range notPuzzles() {
		before := clone(p)
		f(name, p)
		if !isSame(p, before) {
			t.Errorf("%s: %v became %v", name, before, p)
		}
	}
}

// count returns what must be there.
func count(t *testing.T, p puzzle) int {
	t.Helper()
	n, e := squares.Count(p)
	if e != api.OK {
		t.Fatalf("Count(%v): %v", p, e)
	}
	return n
}
