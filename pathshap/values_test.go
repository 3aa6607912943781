package pathshap_test

import (
	"math"
	"math/big"
	"slices"
	"testing"

	"dendron/api"
	"dendron/expect"
	"dendron/pathshap"
	"dendron/ratio"
	"dendron/route"
)

func wantValues(t *testing.T, m api.Model, r []api.Cell, want []*big.Rat) {
	t.Helper()
	if l, e := pathshap.Values(m, r); e != api.OK || !slices.EqualFunc(l, want, isBig) {
		t.Fatalf("%v of %v: %q, %v; not %v", r, m, ratio.Texts(l), e, want)
	}
}

func wantGiven(t *testing.T, m api.Model, r []api.Cell, fixed int, on bool, want []*big.Rat) {
	t.Helper()
	if l, e := pathshap.Given(m, r, fixed, on); e != api.OK || !slices.EqualFunc(l, want, isBig) {
		t.Fatalf("%v of %v where %d is known (%v): %q, %v; not %v", r, m, fixed, on, ratio.Texts(l), e, want)
	}
}

// wantWhole asks whether all values come to what is predicted, less the base.
func wantWhole(t *testing.T, m api.Model, r []api.Cell) {
	t.Helper()
	l, e := pathshap.Values(m, r)
	x, e2 := route.Predict(m, r)
	base, e3 := expect.Base(m)
	if e != api.OK || e2 != api.OK || e3 != api.OK || !ratio.Same(ratio.Sum(l), ratio.Sub(x, base)) {
		t.Fatalf("%v of %v: %q of %v and %v, %v %v %v", r, m, ratio.Texts(l), x, base, e, e2, e3)
	}
}

// wantWholeGiven asks whether all values of the others come to what is predicted, or said where one alone is not known, less what is said where it alone is known, or nothing.
func wantWholeGiven(t *testing.T, m api.Model, r []api.Cell, fixed int) {
	t.Helper()
	for _, on := range []bool{false, true} {
		var ahead uint64
		if on {
			ahead = 1 << fixed
		}
		l, e := pathshap.Given(m, r, fixed, on)
		all, e2 := expect.Value(m, r, ^(uint64(1)<<fixed)|ahead)
		least, e3 := expect.Value(m, r, ahead)
		if e != api.OK || e2 != api.OK || e3 != api.OK || !ratio.Same(ratio.Sum(l), ratio.Sub(all, least)) {
			t.Fatalf("%v of %v where %d is known (%v): %q, %v %v %v", r, m, fixed, on, ratio.Texts(l), e, e2, e3)
		}
	}
}

// Promise 15.3: the example, and rows that go to each side.
func TestValues(t *testing.T) {
	tree := []api.Node{split(0, "1/2", 1, 2, "4"), leaf("0", "1"), leaf("1", "3")}
	for line, want := range map[string]string{"1": "1/4", "1/2": "1/4", "0": "-3/4", "?": "1/4"} {
		wantValues(t, model(1, tree), row(line), []*big.Rat{toBig(number(want))})
	}
	// It says 13/4, where nothing is known; where feature 0 alone is, 4 on the right, 1 on the left; where feature 1 is, 4 on the right, 7/4 on the left.
	tree = []api.Node{split(0, "1/2", 4, 1, "4"), split(1, "0?", 3, 2, "3"), leaf("5", "2"), leaf("2", "1"), leaf("1", "1")}
	for line, want := range map[string][]string{
		"1 1": {"7/8", "7/8"}, "1 -1": {"1/2", "-7/4"}, "1 ?": {"1/2", "-7/4"}, "0 0": {"-21/8", "3/8"}, "0 ?": {"-3/2", "-3/4"}, "? 1/3": {"7/8", "7/8"},
	} {
		wantValues(t, model(2, tree), row(line), []*big.Rat{toBig(number(want[0])), toBig(number(want[1]))})
	}
}

// Promise 15.3: a feature that is asked again below goes with all its splits.
func TestValuesOfFeatureAskedAgain(t *testing.T) {
	tree := []api.Node{split(0, "0", 1, 2, "6"), split(0, "-5?", 3, 4, "2"), split(0, "5", 5, 6, "4"), leaf("1", "1/2"), leaf("10", "3/2"), leaf("100", "1"), leaf("1000", "3")}
	base := big.NewRat(6231, 12)
	for line, said := range map[string]string{"-6": "1", "-5": "10", "-1": "10", "0": "100", "5": "1000", "?": "1000"} {
		wantValues(t, model(1, tree), row(line), []*big.Rat{new(big.Rat).Sub(toBig(number(said)), base)})
	}
	tree[1].Feature, tree[2].Feature = 1, 1
	for _, line := range []string{"-6 -6", "3 3", "-6 3", "3 -6", "? ?", "? 7"} {
		wantValues(t, model(2, tree), row(line), valuesBySets(model(2, tree), row(line), -1, false))
	}
}

// Promises 15.3, 15.4: models and rows by chance, by all sets of features or, where these are too many, by all leaves.
func TestValuesByChance(t *testing.T) {
	b := book{}
	d := dice(11)
	for k := range 2500 {
		m := d.anyModel(3, 6)
		r := d.anyRow(m.Features)
		want := b.valuesByLegs(m, r, -1, false)
		if m.Features <= 5 && k%3 == 0 {
			want = valuesBySets(m, r, -1, false)
		}
		wantValues(t, m, r, want)
		wantWhole(t, m, r)
	}
}

// Promise 15.3: each feature that is known always, or never, of models and rows by chance.
func TestGivenByChance(t *testing.T) {
	b := book{}
	d := dice(19)
	for k := range 1500 {
		m := d.anyModel(3, 6)
		if m.Features == 0 {
			continue
		}
		r := d.anyRow(m.Features)
		fixed, on := d.below(m.Features), d.below(2) == 0
		want := b.valuesByLegs(m, r, fixed, on)
		if m.Features <= 5 && k%3 == 0 {
			want = valuesBySets(m, r, fixed, on)
		}
		wantGiven(t, m, r, fixed, on, want)
		wantWholeGiven(t, m, r, fixed)
	}
}

// Promise 15.3: what a feature adds where another one is known, or not, told by hand.
func TestGiven(t *testing.T) {
	tree := []api.Node{split(0, "1/2", 4, 1, "4"), split(1, "0?", 3, 2, "3"), leaf("5", "2"), leaf("2", "1"), leaf("1", "1")}
	for _, c := range []struct {
		line  string
		fixed int
		on    bool
		want  []string
	}{
		{"1 1", 0, true, []string{"0", "1"}}, {"1 1", 0, false, []string{"0", "3/4"}}, {"1 1", 1, true, []string{"1", "0"}}, {"1 1", 1, false, []string{"3/4", "0"}},
		{"0 1", 0, true, []string{"0", "0"}}, {"0 1", 0, false, []string{"0", "3/4"}}, {"? ?", 0, true, []string{"0", "-2"}}, {"? ?", 1, true, []string{"1/4", "0"}},
	} {
		wantGiven(t, model(2, tree), row(c.line), c.fixed, c.on, []*big.Rat{toBig(number(c.want[0])), toBig(number(c.want[1]))})
	}
	one := model(1, []api.Node{split(0, "0", 1, 2, "2"), leaf("1", "1"), leaf("5", "1")})
	wantGiven(t, one, row("1"), 0, true, []*big.Rat{new(big.Rat)})
	wantGiven(t, one, row("1"), 0, false, []*big.Rat{new(big.Rat)})
}

// Promise 15.4: a feature for which no split asks has 0, in its form, also where all other features are asked.
func TestValuesOfUnasked(t *testing.T) {
	for features := range 65 {
		want := slices.Repeat([]*big.Rat{new(big.Rat)}, features)
		r := make([]api.Cell, features)
		for _, m := range []api.Model{{Features: features}, model(features, []api.Node{leaf("7", "2")})} {
			wantValues(t, m, r, want)
			if features > 0 {
				wantGiven(t, m, r, features-1, true, want)
				wantGiven(t, m, r, 0, false, want)
			}
		}
		for asked := range features {
			m := model(features, []api.Node{split(asked, "0", 1, 2, "4"), leaf("0", "1"), leaf("1", "3")})
			want[asked] = big.NewRat(1, 4)
			wantValues(t, m, r, want)
			if features > 1 {
				wantGiven(t, m, r, (asked+1)%features, true, want)
			}
			want[asked] = new(big.Rat)
			wantGiven(t, m, r, asked, true, want)
		}
	}
}

// Promise 15.3: of trees whose leaves say all the same, or 0, nothing adds anything.
func TestValuesOfOneValue(t *testing.T) {
	d := dice(31)
	for _, x := range append(zeros(), number("-7/3"), soiled(number("7/3"))) {
		tree := d.anyTree(20, 4)
		for i := range tree {
			tree[i].Value = x
		}
		wantValues(t, model(4, tree), d.anyRow(4), slices.Repeat([]*big.Rat{new(big.Rat)}, 4))
	}
}

// Promise 15.3: Tree is Values of the one tree; of what may not be ErrArg.
func TestTree(t *testing.T) {
	b := book{}
	d := dice(37)
	for range 400 {
		features := 1 + d.below(4)
		tree, r := d.anyTree(d.below(7), features), d.anyRow(features)
		want := b.valuesByLegs(model(features, tree), r, -1, false)
		if l, e := pathshap.Tree(tree, r); e != api.OK || !slices.EqualFunc(l, want, isBig) {
			t.Fatalf("%v of %v: %q, %v; not %v", r, tree, ratio.Texts(l), e, want)
		}
	}
	for _, m := range wrongModels()[5:] {
		bad := m.Trees[len(m.Trees)-1]
		if l, e := pathshap.Tree(bad, row("1")); e != api.ErrArg || len(l) > 0 {
			t.Fatal(bad, l, e)
		}
	}
	one := []api.Node{leaf("1", "1")}
	asks := []api.Node{split(2, "0", 1, 2, "2"), leaf("1", "1"), leaf("2", "1")}
	for n := range 68 {
		if l, e := pathshap.Tree(one, make([]api.Cell, n)); n <= 64 && (e != api.OK || len(l) != n) || n > 64 && (e != api.ErrArg || len(l) > 0) {
			t.Fatal(n, l, e)
		}
		if l, e := pathshap.Tree(asks, make([]api.Cell, n)); (e == api.OK) != (n >= 3 && n <= 64) || e != api.OK && (e != api.ErrArg || len(l) > 0) {
			t.Fatal(n, l, e)
		}
	}
	if l, e := pathshap.Tree(nil, row("1")); e != api.ErrArg || len(l) > 0 {
		t.Fatal(l, e)
	}
}

// wantError asks all that look at a row for an error and nothing beside.
func wantError(t *testing.T, m api.Model, r []api.Cell, why api.Errno) {
	t.Helper()
	if l, e := pathshap.Values(m, r); e != why || len(l) > 0 {
		t.Fatalf("%v of %v: %v, %v; not %v", r, m, l, e, why)
	}
	for _, fixed := range []int{-1, 0, 1, 64, math.MaxInt, math.MinInt} {
		for _, on := range []bool{false, true} {
			if l, e := pathshap.Given(m, r, fixed, on); e != why || len(l) > 0 {
				t.Fatalf("%v of %v where %d is known (%v): %v, %v; not %v", r, m, fixed, on, l, e, why)
			}
		}
	}
}

// Promise 15.3: what may not be is told ahead of the length, and both ahead of a feature that there is not.
func TestValuesWrong(t *testing.T) {
	for _, m := range wrongModels() {
		for _, n := range []int{0, 1, 2, 64, 65} {
			wantError(t, m, make([]api.Cell, n), api.ErrArg)
		}
	}
	for n := range 70 {
		if n != 2 {
			wantError(t, three(), make([]api.Cell, n), api.ErrLength)
		}
	}
	wantError(t, api.Model{}, row("?"), api.ErrLength)
	for features := range 65 {
		for _, fixed := range []int{-1, -2, features, features + 1, math.MaxInt, math.MinInt} {
			for _, on := range []bool{false, true} {
				if l, e := pathshap.Given(api.Model{Features: features}, make([]api.Cell, features), fixed, on); e != api.ErrRange || len(l) > 0 {
					t.Fatal(features, fixed, l, e)
				}
			}
		}
	}
}

// Promises 15.3, 15.4: long chains of many features, on whose way the row goes, or leaves it early or late, by all leaves.
func TestChains(t *testing.T) {
	b := book{}
	d := dice(41)
	for _, c := range [][2]int{{14, 14}, {18, 7}, {24, 2}, {10, 64}} {
		for _, left := range []bool{false, true} {
			m := model(c[1], d.weighed(chain(c[0], c[1], left), 0), d.weighed(chain(c[0]/2, c[1], !left), 0))
			for _, text := range []string{"0", "-1000", "1000", "-3", "5", "?"} {
				r := slices.Repeat(row(text), c[1])
				fixed, on := d.below(c[1]), d.below(2) == 0
				wantValues(t, m, r, b.valuesByLegs(m, r, -1, false))
				wantGiven(t, m, r, fixed, on, b.valuesByLegs(m, r, fixed, on))
			}
		}
	}
}

// Promise 15.3: one feature of the longest chain of most features, by all leaves.
func TestLongestChain(t *testing.T) {
	b := book{}
	tree := chain(127, 64, true)
	r := make([]api.Cell, 64)
	want := new(big.Rat)
	for k, n := range tree {
		if n.Leaf {
			l := legBySight(tree, k, r)
			if place := slices.IndexFunc(l.parts, func(p part) bool { return p.feature == 40 }); place >= 0 {
				want.Add(want, l.adds(place, 64, b))
			}
		}
	}
	if l, e := pathshap.Tree(tree, r); e != api.OK || !isBig(l[40], want) {
		t.Fatalf("%s, %v; not %v", ratio.Print(l[40]), e, want)
	}
}

// Promise 15.4: the longest ways, and the most trees, in time: steps do not grow with the number of coalitions.
func TestMostValues(t *testing.T) {
	d := dice(13)
	for _, c := range [][2]int{{2, 20}, {64, 2}} {
		features := c[0]
		m := api.Model{Features: features}
		for range c[1] {
			m.Trees = append(m.Trees, d.weighed(chain(127, features, d.below(2) == 0), 0))
		}
		wantWhole(t, m, make([]api.Cell, features))
		wantWholeGiven(t, m, make([]api.Cell, features), features-1)
	}
	m := api.Model{Features: 64}
	for range 64 {
		m.Trees = append(m.Trees, d.weighed(d.anyTree(127, 64), 0))
	}
	wantWhole(t, m, d.anyRow(64))
}
