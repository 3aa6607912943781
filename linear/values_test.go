package linear_test

import (
	"math/big"
	"slices"
	"testing"

	"dendron/api"
	"dendron/expect"
	"dendron/linear"
	"dendron/pathshap"
	"dendron/ratio"
	"dendron/route"
)

func wantValues(t *testing.T, m api.Model, r []api.Cell, want []*big.Rat) {
	t.Helper()
	if l, e := linear.Values(m, r); e != api.OK || !slices.EqualFunc(l, want, isBig) {
		t.Fatalf("%v of %v: %q, %v; not %v", r, m, ratio.Texts(l), e, want)
	}
}

// wantPaths asks for the values of pathshap, and for whether all come to what is predicted, less the base.
func wantPaths(t *testing.T, m api.Model, r []api.Cell) {
	t.Helper()
	l, e := linear.Values(m, r)
	want, e2 := pathshap.Values(m, r)
	if e != api.OK || e2 != api.OK || !slices.EqualFunc(l, want, sameLimbs) {
		t.Fatalf("%v of %v: %q, %v; not %q, %v", r, m, ratio.Texts(l), e, ratio.Texts(want), e2)
	}
	x, e := route.Predict(m, r)
	base, e2 := expect.Base(m)
	if e != api.OK || e2 != api.OK || !ratio.Same(ratio.Sum(l), ratio.Sub(x, base)) {
		t.Fatalf("%v of %v: %q of %v and %v, %v %v", r, m, ratio.Texts(l), x, base, e, e2)
	}
}

// valuesByWords is the sum that the chapter names, by the calls that it names.
func valuesByWords(t *testing.T, m api.Model, r []api.Cell, weigh func([]api.Rat, int) (api.Rat, api.Errno)) []api.Rat {
	t.Helper()
	out := slices.Repeat([]api.Rat{ratio.Zero()}, m.Features)
	for _, tree := range m.Trees {
		legs, e := expect.Legs(tree, r)
		if e != api.OK {
			t.Fatal(e)
		}
		for _, l := range legs {
			for i, p := range l.Parts {
				rest, e := linear.Without(l, i)
				x, e2 := weigh(rest, len(l.Parts))
				if e != api.OK || e2 != api.OK {
					t.Fatal(e, e2)
				}
				more := ratio.Neg(p.Share)
				if p.Ok {
					more = ratio.Add(more, ratio.One())
				}
				out[p.Feature] = ratio.Add(out[p.Feature], ratio.Mul(ratio.Mul(more, x), l.Value))
			}
		}
	}
	return out
}

// Promise 16.3: rows that go to each side, told by hand.
func TestValues(t *testing.T) {
	tree := []api.Node{split(0, "1/2", 1, 2, "4"), leaf("0", "1"), leaf("1", "3")}
	for line, want := range map[string]string{"1": "1/4", "1/2": "1/4", "0": "-3/4", "?": "1/4"} {
		wantValues(t, model(1, tree), row(line), []*big.Rat{toBig(number(want))})
	}
	// It says 13/4, where nothing is known; where feature 0 alone is, 4 on the right, 1 on the left; where feature 1 is, 4 on the right, 7/4 on the left.
	tree = []api.Node{split(0, "1/2", 4, 1, "4"), split(1, "0?", 3, 2, "3"), leaf("5", "2"), leaf("2", "1"), leaf("1", "1")}
	for line, want := range map[string][]string{
		"1 1": {"7/8", "7/8"}, "1 -1": {"1/2", "-7/4"}, "1 ?": {"1/2", "-7/4"}, "0 0": {"-21/8", "3/8"}, "0 ?": {"-3/2", "-3/4"}, "? 1/3": {"7/8", "7/8"},
	} {
		wantValues(t, model(2, tree), row(line), []*big.Rat{toBig(number(want[0])), toBig(number(want[1]))})
	}
}

// Promise 16.3: a feature that is asked again below has one part, of all its splits.
func TestValuesOfFeatureAskedAgain(t *testing.T) {
	tree := []api.Node{split(0, "0", 1, 2, "6"), split(0, "-5?", 3, 4, "2"), split(0, "5", 5, 6, "4"), leaf("1", "1/2"), leaf("10", "3/2"), leaf("100", "1"), leaf("1000", "3")}
	base := big.NewRat(6231, 12)
	for line, said := range map[string]string{"-6": "1", "-5": "10", "-1": "10", "0": "100", "5": "1000", "?": "1000"} {
		wantValues(t, model(1, tree), row(line), []*big.Rat{new(big.Rat).Sub(toBig(number(said)), base)})
	}
	tree[1].Feature, tree[2].Feature = 1, 1
	for _, line := range []string{"-6 -6", "3 3", "-6 3", "3 -6", "? ?", "? 7"} {
		wantValues(t, model(2, tree), row(line), valuesBySets(model(2, tree), row(line)))
	}
}

// Promise 16.3: neighbours with parts of one share, of one feature and of others, ok and not.
func TestValuesOfEqualShares(t *testing.T) {
	tree := []api.Node{split(0, "0", 1, 2, "8"), split(1, "0", 3, 4, "4"), split(1, "5", 5, 6, "4")}
	for i, at := range []string{"-5", "0", "3", "0"} {
		left := 7 + 2*i
		tree = append(tree, split(i%2, at, left, left+1, "2"))
	}
	for i := range 8 {
		tree = append(tree, api.Node{Leaf: true, Value: ratio.Of(1 << i), Cover: ratio.One()})
	}
	for _, x := range []string{"-6", "-1", "0", "3", "9", "?"} {
		for _, y := range []string{"-6", "-1", "0", "3", "9", "?"} {
			r := row(x + " " + y)
			wantValues(t, model(2, tree), r, valuesBySets(model(2, tree), r))
		}
	}
}

// Promises 16.3, 16.4: models and rows by chance, by all leaves, by all sets of features where these are few, by paths, and by the calls that the chapter names.
func TestValuesByChance(t *testing.T) {
	d := dice(11)
	for k := range 2500 {
		m := d.anyModel(3, 6)
		r := d.anyRow(m.Features)
		wantValues(t, m, r, valuesByLegs(m, r))
		wantPaths(t, m, r)
		if m.Features <= 5 && k%3 == 0 {
			wantValues(t, m, r, valuesBySets(m, r))
		}
		weigh := linear.Weigh
		if k%2 == 0 {
			weigh = linear.ByArea
		}
		got, _ := linear.Values(m, r)
		if want := valuesByWords(t, m, r, weigh); !slices.EqualFunc(got, want, sameLimbs) {
			t.Fatalf("%v of %v: %q, not %q", r, m, ratio.Texts(got), ratio.Texts(want))
		}
	}
}

// Promise 16.3: a feature for which no split asks has 0, in its form, also where all other features are asked.
func TestValuesOfUnasked(t *testing.T) {
	for features := range 65 {
		want := slices.Repeat([]*big.Rat{new(big.Rat)}, features)
		r := make([]api.Cell, features)
		for _, m := range []api.Model{{Features: features}, model(features, []api.Node{leaf("7", "2")}), model(features, []api.Node{leaf("7", "2")}, []api.Node{leaf("0", "1")})} {
			wantValues(t, m, r, want)
		}
		for asked := range features {
			m := model(features, []api.Node{split(asked, "0", 1, 2, "4"), leaf("0", "1"), leaf("1", "3")})
			want[asked] = big.NewRat(1, 4)
			wantValues(t, m, r, want)
			want[asked] = new(big.Rat)
		}
	}
}

// Promise 16.3: of trees whose leaves say all the same, or 0, nothing adds anything.
func TestValuesOfOneValue(t *testing.T) {
	d := dice(31)
	for _, x := range append(zeros(), number("-7/3"), soiled(number("7/3"))) {
		tree := d.anyTree(20, 4)
		for i := range tree {
			tree[i].Value = x
		}
		wantValues(t, model(4, tree), d.anyRow(4), slices.Repeat([]*big.Rat{new(big.Rat)}, 4))
	}
}

// Promise 16.3: all trees count, also those that come again.
func TestValuesOfTrees(t *testing.T) {
	d := dice(37)
	for range 30 {
		tree, r := d.anyTree(1+d.below(8), 4), d.anyRow(4)
		one, e := linear.Values(model(4, tree), r)
		if e != api.OK {
			t.Fatal(e)
		}
		for _, n := range []int{2, 5, 64} {
			var want []*big.Rat
			for _, x := range one {
				want = append(want, new(big.Rat).Mul(toBig(x), big.NewRat(int64(n), 1)))
			}
			wantValues(t, model(4, slices.Repeat([][]api.Node{tree}, n)...), r, want)
		}
	}
}

func wantError(t *testing.T, m api.Model, r []api.Cell, why api.Errno) {
	t.Helper()
	if l, e := linear.Values(m, r); e != why || len(l) > 0 {
		t.Fatalf("%v of %v: %v, %v; not %v", r, m, l, e, why)
	}
}

// Promise 16.3: what may not be is told ahead of the length.
func TestValuesWrong(t *testing.T) {
	for _, m := range wrongModels() {
		for _, n := range []int{0, 1, 2, 64, 65} {
			wantError(t, m, make([]api.Cell, n), api.ErrArg)
		}
	}
	for n := range 70 {
		if n != 2 {
			wantError(t, three(), make([]api.Cell, n), api.ErrLength)
		}
	}
	wantError(t, api.Model{}, row("?"), api.ErrLength)
	wantError(t, model(64), make([]api.Cell, 65), api.ErrLength)
}

// Promises 16.3, 16.4: long chains of many features, on whose way the row goes, or leaves it early or late.
func TestChains(t *testing.T) {
	d := dice(41)
	for _, c := range [][2]int{{14, 14}, {18, 7}, {24, 2}, {10, 64}} {
		for _, left := range []bool{false, true} {
			m := model(c[1], d.weighed(chain(c[0], c[1], left), 0), d.weighed(chain(c[0]/2, c[1], !left), 0))
			for _, text := range []string{"0", "-1000", "1000", "-3", "5", "?"} {
				r := slices.Repeat(row(text), c[1])
				wantValues(t, m, r, valuesByLegs(m, r))
				wantPaths(t, m, r)
			}
		}
	}
}

// Promise 16.4: the longest ways, and the most trees, in time.
func TestMostValues(t *testing.T) {
	d := dice(13)
	for _, c := range [][2]int{{2, 20}, {64, 2}} {
		features := c[0]
		m := api.Model{Features: features}
		for range c[1] {
			m.Trees = append(m.Trees, d.weighed(chain(127, features, d.below(2) == 0), 0))
		}
		wantPaths(t, m, make([]api.Cell, features))
	}
	m := api.Model{Features: 64}
	for range 64 {
		m.Trees = append(m.Trees, d.weighed(d.anyTree(127, 64), 0))
	}
	wantPaths(t, m, d.anyRow(64))
}
