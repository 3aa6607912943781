package route_test

import (
	"math/big"
	"slices"
	"testing"

	"dendron/api"
	"dendron/ratio"
	"dendron/route"
)

// wantError asks all that predict for an error and nothing beside.
func wantError(t *testing.T, m api.Model, r []api.Cell, why api.Errno) {
	t.Helper()
	x, e := route.Predict(m, r)
	each, e2 := route.Each(m, r)
	mean, e3 := route.Mean(m, [][]api.Cell{r})
	if route.Fits(m, r) != why || e != why || e2 != why || e3 != why || !sameLimbs(x, api.Rat{}) || len(each) > 0 || !sameLimbs(mean, api.Rat{}) {
		t.Fatalf("%v of %v: %v %v %v, %v %v %v; not %v", r, m, x, each, mean, e, e2, e3, why)
	}
}

// wantPredicted asks for the values tree by tree, their sum, and the mean of one row, all in their one form.
func wantPredicted(t *testing.T, m api.Model, r []api.Cell, want []*big.Rat) {
	t.Helper()
	x, e := route.Predict(m, r)
	each, e2 := route.Each(m, r)
	mean, e3 := route.Mean(m, [][]api.Cell{r})
	sum := sumBySight(want)
	if route.Fits(m, r) != api.OK || e != api.OK || e2 != api.OK || e3 != api.OK || !isBig(x, sum) || !slices.EqualFunc(each, want, isBig) || !isBig(mean, sum) {
		t.Fatalf("%v of %v: %v %v %v, %v %v %v; not %v", r, m, x, each, mean, e, e2, e3, want)
	}
}

func three() api.Model {
	return model(2,
		[]api.Node{split(0, "1/2", 1, 2, "4"), leaf("1/3", "1"), split(1, "0?", 3, 4, "3"), leaf("2", "1"), leaf("5", "2")},
		[]api.Node{leaf("-1/3", "7")},
		[]api.Node{split(1, "5", 2, 1, "2"), leaf("100", "1"), leaf("0", "1")})
}

// Promise 10.2: values of all trees, tree by tree, and their sums.
func TestPredict(t *testing.T) {
	for line, want := range map[string][]string{
		"0 0": {"1/3", "-1/3", "0"}, "1/2 ?": {"2", "-1/3", "100"}, "1 0": {"5", "-1/3", "0"}, "? 5": {"5", "-1/3", "100"}, "? ?": {"2", "-1/3", "100"}, "-1 6": {"1/3", "-1/3", "100"},
	} {
		var values []*big.Rat
		for _, s := range want {
			values = append(values, toBig(number(s)))
		}
		wantPredicted(t, three(), row(line), values)
	}
	if x, _ := route.Predict(three(), row("1/2 ?")); ratio.Print(x) != "305/3" {
		t.Fatal(ratio.Print(x))
	}
	// What two trees say may come to nothing.
	if x, _ := route.Predict(three(), row("0 0")); !sameLimbs(x, ratio.Zero()) {
		t.Fatal(x)
	}
}

// Promise 10.2: of no trees 0, in its form.
func TestPredictOfNoTrees(t *testing.T) {
	for features := range 65 {
		m := api.Model{Features: features}
		wantPredicted(t, m, make([]api.Cell, features), nil)
		wantError(t, m, make([]api.Cell, features+1), api.ErrLength)
	}
}

// Promise 10.2: what may not be is told ahead of the length.
func TestFits(t *testing.T) {
	for _, m := range wrongModels() {
		for n := range 4 {
			wantError(t, m, make([]api.Cell, n), api.ErrArg)
		}
		wantError(t, m, make([]api.Cell, 65), api.ErrArg)
	}
	for n := range 70 {
		if n != 2 {
			wantError(t, three(), make([]api.Cell, n), api.ErrLength)
		}
	}
	wantError(t, three(), nil, api.ErrLength)
	wantError(t, model(0, []api.Node{leaf("1", "1")}), row("?"), api.ErrLength)
	wantPredicted(t, model(0, []api.Node{leaf("1", "1")}), nil, []*big.Rat{big.NewRat(1, 1)})
}

// Promise 10.2: means of rows, which may come again; the error of the first row that has one; of no rows.
func TestMean(t *testing.T) {
	m := three()
	for _, c := range []struct {
		rows []string
		want string
	}{
		{[]string{"0 0"}, "0"}, {[]string{"0 0", "1 0"}, "7/3"}, {[]string{"1 0", "0 0", "0 0", "0 0"}, "7/6"}, {[]string{"1/2 ?", "1 0", "? 5"}, "211/3"}, {slices.Repeat([]string{"1/2 ?"}, 100), "305/3"},
	} {
		var l [][]api.Cell
		for _, s := range c.rows {
			l = append(l, row(s))
		}
		if x, e := route.Mean(m, l); e != api.OK || !sameLimbs(x, number(c.want)) {
			t.Fatalf("%q: %v, %v; not %s", c.rows, x, e, c.want)
		}
		for i := range len(l) + 1 {
			for _, bad := range [][]api.Cell{nil, row("1"), row("1 2 3")} {
				if x, e := route.Mean(m, slices.Insert(slices.Clone(l), i, bad)); e != api.ErrLength || !sameLimbs(x, api.Rat{}) {
					t.Fatalf("%q with %v at %d: %v, %v", c.rows, bad, i, x, e)
				}
			}
		}
	}
	for _, none := range [][][]api.Cell{nil, {}} {
		if x, e := route.Mean(m, none); e != api.ErrEmpty || !sameLimbs(x, api.Rat{}) {
			t.Fatal(x, e)
		}
		if x, e := route.Mean(api.Model{}, none); e != api.ErrEmpty || !sameLimbs(x, api.Rat{}) {
			t.Fatal(x, e)
		}
		for _, bad := range wrongModels() {
			if x, e := route.Mean(bad, none); e != api.ErrArg || !sameLimbs(x, api.Rat{}) {
				t.Fatalf("%v: %v, %v", bad, x, e)
			}
		}
	}
	if x, e := route.Mean(api.Model{}, [][]api.Cell{nil, {}}); e != api.OK || !sameLimbs(x, ratio.Zero()) {
		t.Fatal(x, e)
	}
	for _, bad := range wrongModels() {
		if _, e := route.Mean(bad, [][]api.Cell{row("1 2 3"), row("1")}); e != api.ErrArg {
			t.Fatalf("%v: %v", bad, e)
		}
	}
}

// Promise 10.2: models and rows by chance.
func TestPredictByChance(t *testing.T) {
	d := dice(9)
	for range 5000 {
		m := d.anyModel(4, 6)
		var l [][]api.Cell
		total := new(big.Rat)
		for range 1 + d.below(4) {
			r := d.anyRow(m.Features)
			l = append(l, r)
			each := eachBySight(m, r)
			wantPredicted(t, m, r, each)
			total.Add(total, sumBySight(each))
		}
		total.Quo(total, big.NewRat(int64(len(l)), 1))
		if x, e := route.Mean(m, l); e != api.OK || !isBig(x, total) {
			t.Fatalf("%v of %v: %v, %v; not %v", l, m, x, e, total)
		}
	}
}

// Promise 10.2: the greatest model, and many rows, in time.
func TestMostTrees(t *testing.T) {
	m := api.Model{Features: 64, Trees: slices.Repeat([][]api.Node{chain(127, true)}, 64)}
	r := make([]api.Cell, 64)
	if x, e := route.Predict(m, r); e != api.OK || ratio.Print(x) != "320" {
		t.Fatal(x, e)
	}
	small := three()
	if x, e := route.Mean(small, slices.Repeat([][]api.Cell{row("1 0")}, 20000)); e != api.OK || ratio.Print(x) != "14/3" {
		t.Fatal(x, e)
	}
}
