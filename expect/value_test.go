package expect_test

import (
	"math"
	"math/big"
	"slices"
	"testing"

	"dendron/api"
	"dendron/expect"
	"dendron/ratio"
	"dendron/route"
)

// wantError asks all that look at a row for an error and nothing beside.
func wantError(t *testing.T, m api.Model, r []api.Cell, why api.Errno) {
	t.Helper()
	for _, set := range []uint64{0, 1, 1<<64 - 1} {
		if x, e := expect.Value(m, r, set); e != why || !sameLimbs(x, api.Rat{}) {
			t.Fatalf("%v of %v where %b is known: %v, %v; not %v", r, m, set, x, e, why)
		}
	}
	if l, e := expect.Table(m, r); e != why || len(l) > 0 {
		t.Fatalf("table of %v of %v: %v, %v; not %v", r, m, l, e, why)
	}
}

func wantValue(t *testing.T, m api.Model, r []api.Cell, set uint64, want *big.Rat) {
	t.Helper()
	if x, e := expect.Value(m, r, set); e != api.OK || !isBig(x, want) {
		t.Fatalf("%v of %v where %b is known: %v, %v; not %v", r, m, set, x, e, want)
	}
}

func wantBase(t *testing.T, m api.Model, want *big.Rat) {
	t.Helper()
	if x, e := expect.Base(m); e != api.OK || !isBig(x, want) {
		t.Fatalf("%v: %v, %v; not %v", m, x, e, want)
	}
}

// Promise 11.1: each set, of rows that go to each side, entries at the cut and missing.
func TestValue(t *testing.T) {
	// The three trees say by covers 13/4, -1/3 and 75; the second split of the first tree alone says 4.
	for line, want := range map[string][]string{
		"1 1":   {"935/12", "236/3", "11/3", "14/3"},
		"0 1":   {"935/12", "227/3", "11/3", "2/3"},
		"1/2 ?": {"935/12", "236/3", "1217/12", "305/3"},
		"? 0":   {"935/12", "236/3", "11/3", "14/3"},
		"? -1":  {"935/12", "236/3", "17/12", "5/3"},
		"-1 5":  {"935/12", "227/3", "311/3", "302/3"},
	} {
		for set, text := range want {
			for _, more := range []uint64{0, 4, 1 << 63, 1<<64 - 4} {
				wantValue(t, three(), row(line), uint64(set)|more, toBig(number(text)))
			}
		}
		l, e := expect.Table(three(), row(line))
		if e != api.OK || !slices.Equal(ratio.Texts(l), want) {
			t.Fatalf("%s: %q, %v; not %q", line, ratio.Texts(l), e, want)
		}
	}
}

// Promise 11.1: a feature that is asked again below is known, or not, at all its splits.
func TestValueOfFeatureAskedAgain(t *testing.T) {
	tree := []api.Node{split(0, "0", 1, 2, "6"), split(0, "-5?", 3, 4, "2"), split(0, "5", 5, 6, "4"), leaf("1", "1/2"), leaf("10", "3/2"), leaf("100", "1"), leaf("1000", "3")}
	for line, want := range map[string]string{"-6": "1", "-5": "10", "-1": "10", "0": "100", "5": "1000", "?": "1000"} {
		wantValue(t, model(1, tree), row(line), 0, big.NewRat(6231, 12))
		wantValue(t, model(1, tree), row(line), 1, toBig(number(want)))
	}
	tree[0].Miss = true
	wantValue(t, model(1, tree), row("?"), 1, big.NewRat(1, 1))
}

// Promise 11.1: of no trees 0, in its form; of a leaf alone its value, whatever is known.
func TestValueOfLittle(t *testing.T) {
	for features := range 65 {
		m, one := api.Model{Features: features}, model(features, []api.Node{{Leaf: true, Value: soiled(number("-7/3")), Cover: number("1/9")}})
		for _, set := range []uint64{0, 1, 1<<64 - 1} {
			wantValue(t, m, make([]api.Cell, features), set, new(big.Rat))
			wantValue(t, one, make([]api.Cell, features), set, big.NewRat(-7, 3))
		}
		wantBase(t, m, new(big.Rat))
		wantBase(t, one, big.NewRat(-7, 3))
		if l, e := expect.Nodes(one.Trees[0], features); e != api.OK || !slices.EqualFunc(l, []*big.Rat{big.NewRat(-7, 3)}, isBig) {
			t.Fatal(l, e)
		}
	}
}

// Promise 11.1: what may not be is told ahead of the length.
func TestNoValue(t *testing.T) {
	for _, m := range wrongModels() {
		for n := range 15 {
			wantError(t, m, make([]api.Cell, n), api.ErrArg)
		}
		wantError(t, m, make([]api.Cell, 64), api.ErrArg)
		wantError(t, m, make([]api.Cell, 65), api.ErrArg)
		if x, e := expect.Base(m); e != api.ErrArg || !sameLimbs(x, api.Rat{}) {
			t.Fatalf("%v: %v, %v", m, x, e)
		}
	}
	for n := range 70 {
		if n != 2 {
			wantError(t, three(), make([]api.Cell, n), api.ErrLength)
		}
	}
	wantError(t, three(), nil, api.ErrLength)
	wantError(t, api.Model{}, row("?"), api.ErrLength)
}

// Promise 11.1: the example, and bases of several trees.
func TestBase(t *testing.T) {
	wantBase(t, model(1, []api.Node{split(0, "7", 1, 2, "4"), leaf("0", "1"), leaf("1", "3")}), big.NewRat(3, 4))
	wantBase(t, three(), big.NewRat(935, 12))
	wantBase(t, model(0, []api.Node{leaf("3", "5")}, []api.Node{leaf("-3", "1/5")}), new(big.Rat))
}

// Promise 11.1: each feature of 64 is known by its own bit.
func TestValueOfEachBit(t *testing.T) {
	m := api.Model{Features: 64}
	for feature := range 64 {
		m.Trees = append(m.Trees, []api.Node{split(feature, "0", 1, 2, "4"), leaf("0", "1"), {Leaf: true, Value: number(new(big.Int).Lsh(big.NewInt(4), uint(feature)).String()), Cover: number("3")}})
	}
	r := make([]api.Cell, 64)
	nothing := new(big.Int).Mul(big.NewInt(3), new(big.Int).SetUint64(1<<64-1))
	for feature := range 64 {
		set := uint64(1) << feature
		want := new(big.Int).Add(nothing, new(big.Int).SetUint64(set))
		wantValue(t, m, r, set, new(big.Rat).SetInt(want))
		want.Sub(new(big.Int).Mul(big.NewInt(4), new(big.Int).SetUint64(1<<64-1)), new(big.Int).SetUint64(set))
		wantValue(t, m, r, ^set, new(big.Rat).SetInt(want))
	}
}

// Promises 11.1, 11.3: models, rows and sets by chance.
func TestValueByChance(t *testing.T) {
	d := dice(3)
	for range 4000 {
		m := d.anyModel(4, 7)
		r := d.anyRow(m.Features)
		wantBase(t, m, modelBySight(m, r, 0))
		wantValue(t, m, r, 0, modelBySight(m, r, 0))
		for range 4 {
			set := d.anySet()
			wantValue(t, m, r, set, modelBySight(m, r, set))
		}
		x, e := route.Predict(m, r)
		if e != api.OK {
			t.Fatal(e)
		}
		wantValue(t, m, r, 1<<64-1, toBig(x))
		if m.Features < 64 {
			wantValue(t, m, r, 1<<m.Features-1, toBig(x))
		}
	}
}

// Promise 11.1: the deepest trees, and the greatest model, in time.
func TestValueOfMuch(t *testing.T) {
	for _, left := range []bool{false, true} {
		m := api.Model{Features: 64, Trees: slices.Repeat([][]api.Node{chain(127, 64, left)}, 64)}
		r := make([]api.Cell, 64)
		// One leaf of 128 of the same cover has 5, the others 1.
		wantBase(t, m, big.NewRat(66, 1))
		wantValue(t, m, r, 0, big.NewRat(66, 1))
		wantValue(t, m, r, 1<<64-1, big.NewRat(320, 1))
		wantValue(t, m, r, 0x5555555555555555, modelBySight(m, r, 0x5555555555555555))
	}
}

// Promise 11.1: of each node the mean of the leaves below it.
func TestNodes(t *testing.T) {
	for i, want := range [][]string{{"13/4", "4", "5", "2", "1"}, {"-1/3"}, {"75", "100", "0"}} {
		for features := 2; features <= 64; features++ {
			if l, e := expect.Nodes(three().Trees[i], features); e != api.OK || !slices.Equal(ratio.Texts(l), want) {
				t.Fatalf("tree %d: %q, %v; not %q", i, ratio.Texts(l), e, want)
			}
		}
	}
}

func wantNoNodes(t *testing.T, tree []api.Node, features int) {
	t.Helper()
	if l, e := expect.Nodes(tree, features); e != api.ErrArg || len(l) > 0 {
		t.Fatalf("%v of %d features: %v, %v; not refused", tree, features, l, e)
	}
}

// Promise 11.1: trees that may not be for so many features.
func TestNoNodes(t *testing.T) {
	for _, features := range []int{-1, 0, 1, 65, 66, 1 << 32, math.MinInt, math.MaxInt} {
		wantNoNodes(t, three().Trees[0], features)
		wantNoNodes(t, nil, features)
	}
	for _, features := range []int{-1, 65, math.MinInt, math.MaxInt} {
		wantNoNodes(t, []api.Node{leaf("1", "1")}, features)
	}
	for _, m := range wrongModels() {
		if m.Features == 1 && len(m.Trees) == 1 {
			wantNoNodes(t, m.Trees[0], 1)
		}
	}
	wantNoNodes(t, chain(128, 64, true), 64)
}

// Promise 11.1: trees by chance, and the deepest ones.
func TestNodesByChance(t *testing.T) {
	d := dice(19)
	for range 4000 {
		features := pickOf(&d, 1, 2, 5, 64)
		tree := d.anyTree(d.below(10), features)
		if l, e := expect.Nodes(tree, features); e != api.OK || !slices.EqualFunc(l, nodesBySight(tree), isBig) {
			t.Fatalf("%v: %v, %v", tree, l, e)
		}
	}
	for _, left := range []bool{false, true} {
		tree := chain(127, 64, left)
		if l, e := expect.Nodes(tree, 64); e != api.OK || !slices.EqualFunc(l, nodesBySight(tree), isBig) {
			t.Fatal(l, e)
		}
	}
}
