package depend_test

import (
	"math"
	"math/big"
	"slices"
	"testing"

	"dendron/api"
	"dendron/depend"
	"dendron/expect"
	"dendron/ratio"
)

// wantCovers asks for all entries of a grid at once, and for each alone.
func wantCovers(t *testing.T, m api.Model, i int, grid []api.Cell, want []*big.Rat) {
	t.Helper()
	if l, e := depend.CoverAll(m, i, grid); e != api.OK || !slices.EqualFunc(l, want, isBig) {
		t.Fatalf("%d of %v at %v: %v, %v; not %v", i, m, grid, l, e, want)
	}
	for k, z := range grid {
		if x, e := depend.Cover(m, i, z); e != api.OK || !isBig(x, want[k]) {
			t.Fatalf("%d of %v at %v: %v, %v; not %v", i, m, z, x, e, want[k])
		}
	}
}

// wantTexts asks for numbers by their texts, and for no error.
func wantTexts(t *testing.T, l []api.Rat, e api.Errno, want ...string) {
	t.Helper()
	if e != api.OK || !slices.Equal(ratio.Texts(l), want) {
		t.Fatalf("%q, %v; not %q", ratio.Texts(l), e, want)
	}
}

// wantNoFeature asks all calls for an error and nothing beside, whatever the grid and the rows are.
func wantNoFeature(t *testing.T, m api.Model, i int, why api.Errno) {
	t.Helper()
	if x, e := depend.Unasked(m, i); x || e != why {
		t.Fatalf("%d of %v: %v, %v; not %v", i, m, x, e, why)
	}
	if s, l, x, e := depend.Curve(m, i); e != why || len(s) > 0 || len(l) > 0 || !isNone(x) {
		t.Fatalf("%d of %v: %v, %v, %v, %v; not %v", i, m, s, l, x, e, why)
	}
	for _, grid := range [][]api.Cell{nil, row("0"), row("? 1 1/2")} {
		if l, e := depend.CoverAll(m, i, grid); e != why || len(l) > 0 {
			t.Fatalf("%d of %v at %v: %v, %v; not %v", i, m, grid, l, e, why)
		}
		for _, l := range [][][]api.Cell{nil, {nil}, table("1"), table("1 2 | 1"), {make([]api.Cell, 64)}} {
			wantNoAverage(t, m, i, grid, l, why)
		}
	}
	for _, z := range row("0 ?") {
		if x, e := depend.Cover(m, i, z); e != why || !isNone(x) {
			t.Fatalf("%d of %v at %v: %v, %v; not %v", i, m, z, x, e, why)
		}
	}
}

// isNone tells whether a number is the zero value, which has no limbs.
func isNone(x api.Rat) bool {
	return !x.Num.Neg && x.Num.Abs == nil && x.Den == nil
}

// wrongFeatures are places at which a model has none.
func wrongFeatures(features int) []int {
	return []int{-1, -2, -64, math.MinInt, math.MinInt32, features, features + 1, 64, 65, 1 << 32, math.MaxInt}
}

// Promise 13.1: what is said by covers below, at and above each cut, and where the entry is missing.
func TestCover(t *testing.T) {
	grid := row("-1 0 1/3 1/2 1 5 7 ?")
	l, e := depend.CoverAll(three(), 0, grid)
	wantTexts(t, l, e, "227/3", "227/3", "227/3", "236/3", "236/3", "236/3", "236/3", "236/3")
	l, e = depend.CoverAll(three(), 1, grid)
	wantTexts(t, l, e, "17/12", "11/3", "11/3", "11/3", "11/3", "311/3", "311/3", "1217/12")
	for i := range 2 {
		wantCovers(t, three(), i, grid, allCovers(three(), i, grid))
	}
}

// Promise 13.1: grids in any order, with entries that come again, in one form or another; of no entries nothing is said.
func TestCoverOfGrid(t *testing.T) {
	l, e := depend.CoverAll(three(), 1, row("5 ? -1 0 5 -1 ? 99 10/2"))
	wantTexts(t, l, e, "311/3", "1217/12", "17/12", "11/3", "311/3", "17/12", "1217/12", "311/3", "311/3")
	l, e = depend.CoverAll(three(), 0, row("? ?"))
	wantTexts(t, l, e, "236/3", "236/3")
	for i := range 2 {
		l, e = depend.CoverAll(three(), i, nil)
		wantTexts(t, l, e)
		l, e = depend.CoverAll(three(), i, []api.Cell{})
		wantTexts(t, l, e)
	}
}

// Promise 13.1: a missing entry's number is not looked at; a number is what its parts are, divided.
func TestCoverOfAnyNumbers(t *testing.T) {
	m := model(1, []api.Node{split(0, "0?", 1, 2, "4"), leaf("-1", "1"), leaf("1", "3")})
	for _, x := range zeros() {
		wantCovers(t, m, 0, []api.Cell{{Value: x}, {Missing: true, Value: x}, {Value: soiled(number("-1/9"))}, {Value: x}}, []*big.Rat{big.NewRat(1, 1), big.NewRat(-1, 1), big.NewRat(-1, 1), big.NewRat(1, 1)})
	}
	wantCovers(t, m, 0, []api.Cell{{Missing: true, Value: ratio.One()}, {Missing: true, Value: soiled(ratio.One())}}, []*big.Rat{big.NewRat(-1, 1), big.NewRat(-1, 1)})
}

// Promise 13.1: a feature that is asked again below, also where no number, or a missing entry alone, comes to a split.
func TestCoverOfFeatureAskedAgain(t *testing.T) {
	tree := []api.Node{split(0, "0", 1, 2, "8"), split(0, "5?", 3, 4, "3"), split(1, "0", 5, 6, "5"), leaf("1", "1"), leaf("10", "2"), split(0, "-3?", 7, 8, "3"), leaf("100", "2"), leaf("7", "1"), leaf("20", "2")}
	// On the left all numbers are below 5; on the right none is below -3, a missing entry is sent to the left.
	l, e := depend.CoverAll(model(2, tree), 0, row("-4 -1/2 0 4 5 6 ?"))
	wantTexts(t, l, e, "1", "1", "52", "52", "52", "52", "221/5")
	// By covers the left of the root, 3 of 8, says 7, and the first split on the right 47/3.
	l, e = depend.CoverAll(model(2, tree), 1, row("-1 0 1 ?"))
	wantTexts(t, l, e, "149/12", "521/8", "521/8", "521/8")
}

// Promises 13.1, 13.3: no trees, trees without splits, and splits that ask for each feature in turn, of each number of features.
func TestCoverOfEachFeature(t *testing.T) {
	grid := row("-1 0 1 ?")
	for features := range 65 {
		for i := range features {
			wantCovers(t, api.Model{Features: features}, i, grid, slices.Repeat([]*big.Rat{new(big.Rat)}, 4))
			wantCovers(t, model(features, []api.Node{leaf("7", "2")}, []api.Node{leaf("-1/2", "1/3")}), i, grid, slices.Repeat([]*big.Rat{big.NewRat(13, 2)}, 4))
			m := model(features, []api.Node{split(i, "0?", 1, 2, "4"), leaf("0", "1"), leaf("1", "3")})
			wantCovers(t, m, i, grid, []*big.Rat{new(big.Rat), big.NewRat(1, 1), big.NewRat(1, 1), new(big.Rat)})
			if i > 0 {
				wantCovers(t, m, i-1, grid, slices.Repeat([]*big.Rat{big.NewRat(3, 4)}, 4))
			}
		}
	}
}

// Promises 13.1, 13.2: what may not be is told ahead of a feature that there is not, and this ahead of rows.
func TestFeatureRefused(t *testing.T) {
	for _, m := range wrongModels() {
		for _, i := range append(wrongFeatures(m.Features), 0, 1, 63) {
			wantNoFeature(t, m, i, api.ErrArg)
		}
	}
	for _, m := range []api.Model{three(), {}, {Features: 1}, {Features: 63}, {Features: 64}, model(0, []api.Node{leaf("7", "2")})} {
		for _, i := range wrongFeatures(m.Features) {
			wantNoFeature(t, m, i, api.ErrRange)
		}
	}
}

// Promises 13.1, 13.3: models and grids by chance; what expect says of the same, and of features that no split asks.
func TestCoverByChance(t *testing.T) {
	d := dice(3)
	for range 4000 {
		m := d.anyModel(4, 7)
		if m.Features == 0 {
			continue
		}
		i := d.below(m.Features)
		grid := d.anyRow(d.below(7))
		wantCovers(t, m, i, grid, allCovers(m, i, grid))
		unasked, _ := depend.Unasked(m, i)
		for _, z := range grid {
			r := d.anyRow(m.Features)
			r[i] = z
			want, _ := expect.Value(m, r, 1<<i)
			if unasked {
				want, _ = expect.Base(m)
			}
			if x, e := depend.Cover(m, i, z); e != api.OK || !sameLimbs(x, want) {
				t.Fatalf("%d of %v at %v: %v, %v; not %v", i, m, z, x, e, want)
			}
		}
	}
}
