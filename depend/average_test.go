package depend_test

import (
	"math/big"
	"slices"
	"testing"

	"dendron/api"
	"dendron/depend"
	"dendron/ratio"
	"dendron/route"
)

// wantAverages asks for all entries of a grid at once, and for each alone.
func wantAverages(t *testing.T, m api.Model, i int, grid []api.Cell, l [][]api.Cell, want []*big.Rat) {
	t.Helper()
	if got, e := depend.AverageAll(m, i, grid, l); e != api.OK || !slices.EqualFunc(got, want, isBig) {
		t.Fatalf("%d of %v at %v against %v: %v, %v; not %v", i, m, grid, l, got, e, want)
	}
	for k, z := range grid {
		if x, e := depend.Average(m, i, z, l); e != api.OK || !isBig(x, want[k]) {
			t.Fatalf("%d of %v at %v against %v: %v, %v; not %v", i, m, z, l, x, e, want[k])
		}
	}
}

// wantNoAverage asks both calls for an error and nothing beside.
func wantNoAverage(t *testing.T, m api.Model, i int, grid []api.Cell, l [][]api.Cell, why api.Errno) {
	t.Helper()
	if got, e := depend.AverageAll(m, i, grid, l); e != why || len(got) > 0 {
		t.Fatalf("%d of %v at %v against %v: %v, %v; not %v", i, m, grid, l, got, e, why)
	}
	for _, z := range append(row("0 ?"), grid...) {
		if x, e := depend.Average(m, i, z, l); e != why || !isNone(x) {
			t.Fatalf("%d of %v at %v against %v: %v, %v; not %v", i, m, z, l, x, e, why)
		}
	}
}

// Promise 13.1: the mean of what is predicted of the rows, each with the entry in the feature's place, whatever stood there.
func TestAverage(t *testing.T) {
	grid := row("-1 0 5 ? -1")
	for _, text := range []string{"0 1 | 1 9 | ? ?", "0 ? | 1 ? | 1/2 -8", "1 0 | 2 0 | 1/3 0"} {
		l, e := depend.AverageAll(three(), 1, grid, table(text))
		wantTexts(t, l, e, "4/3", "10/3", "310/3", "304/3", "4/3")
	}
	l, e := depend.AverageAll(three(), 0, row("0 1 ?"), table("0 -1 | 0 0 | 7 9 | 8 ?"))
	// The second entries give 0, 0, 100, 100 beside -1/3, and where the first is not below 1/2: 2, 5, 5, 2.
	wantTexts(t, l, e, "152/3", "319/6", "319/6")
	wantAverages(t, three(), 0, row("0 1 ?"), table("0 -1 | 0 0 | 7 9 | 8 ?"), []*big.Rat{big.NewRat(152, 3), big.NewRat(319, 6), big.NewRat(319, 6)})
}

// Promise 13.1: rows may come again, each counts; a row alone is what is predicted of it.
func TestAverageOfRowsAgain(t *testing.T) {
	one, other := row("0 9"), row("1 9")
	l, e := depend.AverageAll(three(), 1, row("0"), [][]api.Cell{one, one, one, other})
	wantTexts(t, l, e, "5/3") // 1, 1, 1, 5 less 1/3
	for _, r := range [][]api.Cell{one, other, row("? ?")} {
		for _, z := range row("-1 0 5 ?") {
			want, _ := route.Predict(three(), []api.Cell{r[0], z})
			if x, e := depend.Average(three(), 1, z, [][]api.Cell{r}); e != api.OK || !sameLimbs(x, want) {
				t.Fatalf("%v at %v: %v, %v; not %v", r, z, x, e, want)
			}
		}
	}
}

// Promise 13.1: the row's own entry of the feature is not looked at, nor a missing one's number.
func TestAverageOfAnyNumbers(t *testing.T) {
	m := model(2, []api.Node{split(0, "0?", 1, 2, "4"), leaf("-1", "1"), split(1, "0?", 3, 4, "3"), leaf("1", "1"), leaf("9", "2")})
	for _, x := range append(zeros(), number("7"), soiled(number("-7/2"))) {
		l := [][]api.Cell{{{Value: x}, {Missing: true, Value: x}}, {{Missing: true, Value: x}, {Value: soiled(number("3"))}}}
		wantAverages(t, m, 0, []api.Cell{{}, {Missing: true, Value: x}, {Value: soiled(number("-1/9"))}}, l, []*big.Rat{big.NewRat(5, 1), big.NewRat(-1, 1), big.NewRat(-1, 1)})
	}
}

// Promise 13.1: no trees, and trees without splits.
func TestAverageOfNoSplits(t *testing.T) {
	for _, features := range []int{1, 2, 63, 64} {
		l := [][]api.Cell{make([]api.Cell, features), make([]api.Cell, features)}
		for i := range features {
			wantAverages(t, api.Model{Features: features}, i, row("0 ?"), l, []*big.Rat{new(big.Rat), new(big.Rat)})
			wantAverages(t, model(features, []api.Node{leaf("7", "2")}, []api.Node{leaf("-1/2", "1/3")}), i, row("0 ?"), l, []*big.Rat{big.NewRat(13, 2), big.NewRat(13, 2)})
		}
	}
}

// Promise 13.1: rows of another length, at any place; then no rows; also where nothing is asked of a grid of no entries.
func TestAverageRefused(t *testing.T) {
	for i := range 2 {
		for _, grid := range [][]api.Cell{nil, row("0"), row("0 ? 1")} {
			for _, text := range []string{"1", "1 2 3", "", "1 2 | 1", "1 | 1 2", "1 2 | 1 2 3 | 1 2", "1 2 |", "| 1 2", "|"} {
				wantNoAverage(t, three(), i, grid, table(text), api.ErrLength)
			}
			wantNoAverage(t, three(), i, grid, nil, api.ErrEmpty)
			wantNoAverage(t, three(), i, grid, [][]api.Cell{}, api.ErrEmpty)
		}
		got, e := depend.AverageAll(three(), i, nil, table("1 2"))
		wantTexts(t, got, e)
	}
	wantNoAverage(t, api.Model{Features: 64}, 63, row("0"), [][]api.Cell{make([]api.Cell, 64), make([]api.Cell, 65)}, api.ErrLength)
}

// Promise 13.1: models, grids and rows by chance.
func TestAverageByChance(t *testing.T) {
	d := dice(7)
	for range 3000 {
		m := d.anyModel(3, 7)
		if m.Features == 0 {
			continue
		}
		i := d.below(m.Features)
		grid := d.anyRow(d.below(5))
		l := d.anyRows(1+d.below(4), m.Features)
		wantAverages(t, m, i, grid, l, allAverages(m, i, grid, l))
	}
}

// Promise 13.1: many entries against many rows, of the most and longest trees, in time.
func TestMostAverages(t *testing.T) {
	for _, features := range []int{1, 3, 64} {
		m := api.Model{Features: features, Trees: slices.Repeat([][]api.Node{chain(127, features, false), chain(127, features, true)}, 32)}
		var grid []api.Cell
		for k := range 4096 {
			grid = append(grid, api.Cell{Value: ratio.Frac(k*31%513-256, 2)})
		}
		var l [][]api.Cell
		for k := range 500 {
			l = append(l, slices.Repeat([]api.Cell{{Value: ratio.Of(k%300 - 150)}}, features))
		}
		got, e := depend.AverageAll(m, 0, grid, l)
		if e != api.OK || len(got) != len(grid) {
			t.Fatalf("%d: %d, %v", features, len(got), e)
		}
		for k := 0; k < len(grid); k += 2100 {
			var turned [][]api.Cell
			for _, r := range l {
				turned = append(turned, append([]api.Cell{grid[k]}, r[1:]...))
			}
			if want, _ := route.Mean(m, turned); !sameLimbs(got[k], want) {
				t.Fatalf("%d at %v: %v, not %v", features, grid[k], got[k], want)
			}
		}
	}
}
