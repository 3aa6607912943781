package route_test

import (
	"math"
	"math/big"
	"slices"
	"testing"

	"dendron/api"
	"dendron/ratio"
	"dendron/route"
)

// wantCuts asks for a feature's cuts, and its steps, in their one form.
func wantCuts(t *testing.T, m api.Model, feature int, want []*big.Rat) {
	t.Helper()
	steps := []*big.Rat{new(big.Rat)}
	if len(want) > 0 {
		steps = slices.Insert(slices.Clone(want), 0, new(big.Rat).Sub(want[0], big.NewRat(1, 1)))
	}
	l, e := route.Cuts(m, feature)
	s, e2 := route.Steps(m, feature)
	if e != api.OK || e2 != api.OK || !slices.EqualFunc(l, want, isBig) || !slices.EqualFunc(s, steps, isBig) {
		t.Fatalf("feature %d of %v: %v, %v and %v, %v; not %v", feature, m, l, e, s, e2, want)
	}
}

func wantNoCuts(t *testing.T, m api.Model, feature int, why api.Errno) {
	t.Helper()
	l, e := route.Cuts(m, feature)
	s, e2 := route.Steps(m, feature)
	if e != why || e2 != why || len(l) > 0 || len(s) > 0 {
		t.Fatalf("feature %d of %v: %v, %v and %v, %v; not %v", feature, m, l, e, s, e2, why)
	}
}

// Promise 10.3: cuts of several trees, rising, each once, in whatever form; leaves have none.
func TestCuts(t *testing.T) {
	m := model(4,
		[]api.Node{split(0, "5", 1, 2, "4"), split(0, "-3/6", 3, 4, "2"), split(2, "1", 5, 6, "2"), leaf("1", "1"), leaf("1", "1"), leaf("1", "1"), leaf("1", "1")},
		[]api.Node{{Leaf: true, Feature: 1, Cut: number("9"), Cover: ratio.One()}},
		[]api.Node{split(0, "7", 1, 2, "3"), leaf("1", "1"), split(0, "-1/2", 3, 4, "2"), leaf("1", "1"), leaf("1", "1")},
		[]api.Node{split(0, "3", 1, 2, "2"), leaf("1", "1"), leaf("1", "1")})
	m.Trees[2][0].Cut = soiled(number("7"))
	m.Trees = append(m.Trees, []api.Node{split(0, "7", 1, 2, "2"), leaf("1", "1"), leaf("1", "1")})
	for feature, want := range map[int][]string{0: {"-1/2", "3", "5", "7"}, 1: nil, 2: {"1"}, 3: nil} {
		l, e := route.Cuts(m, feature)
		if e != api.OK || !slices.Equal(ratio.Texts(l), want) {
			t.Fatalf("feature %d: %q, %v; not %q", feature, ratio.Texts(l), e, want)
		}
		wantCuts(t, m, feature, cutsBySight(m, feature))
	}
	for feature, want := range map[int][]string{0: {"-3/2", "-1/2", "3", "5", "7"}, 1: {"0"}, 2: {"0", "1"}, 3: {"0"}} {
		if l, e := route.Steps(m, feature); e != api.OK || !slices.Equal(ratio.Texts(l), want) {
			t.Fatalf("feature %d: %q, %v; not %q", feature, ratio.Texts(l), e, want)
		}
	}
}

// Promise 10.3: features that there are not; what may not be is told ahead of that.
func TestNoCuts(t *testing.T) {
	for _, feature := range []int{-1, 2, 3, 63, 64, 65, math.MinInt, math.MaxInt, 1 << 32} {
		wantNoCuts(t, three(), feature, api.ErrRange)
		for _, m := range wrongModels() {
			wantNoCuts(t, m, feature, api.ErrArg)
			wantNoCuts(t, m, 0, api.ErrArg)
		}
	}
	wantNoCuts(t, api.Model{}, 0, api.ErrRange)
	wantNoCuts(t, model(0, []api.Node{leaf("1", "1")}), 0, api.ErrRange)
	wantNoCuts(t, api.Model{Features: 64}, 64, api.ErrRange)
	wantCuts(t, api.Model{Features: 64}, 63, nil)
	wantCuts(t, api.Model{Features: 64}, 0, nil)
}

// Promise 10.3: as many cuts as there can be, in any order, in time.
func TestMostCuts(t *testing.T) {
	d := dice(11)
	for _, shape := range []int{-1, 0, 1} {
		m := api.Model{Features: 64}
		for i := range 64 {
			tree := chain(127, true)
			for k := range tree {
				tree[k].Feature = 63
				tree[k].Cut = ratio.Frac(shape*(i*1000+k), 3)
				if shape == 0 {
					tree[k].Cut = ratio.Frac(d.below(1<<20)-1<<19, 1+d.below(100))
				}
			}
			m.Trees = append(m.Trees, tree)
		}
		wantCuts(t, m, 63, cutsBySight(m, 63))
		wantCuts(t, m, 0, nil)
	}
}

// Promise 10.3: models by chance.
func TestCutsByChance(t *testing.T) {
	d := dice(13)
	for range 5000 {
		m := d.anyModel(4, 6)
		for feature := range min(m.Features, 6) {
			wantCuts(t, m, feature, cutsBySight(m, feature))
		}
		wantNoCuts(t, m, pickOf(&d, -1, m.Features, m.Features+1+d.below(9)), api.ErrRange)
	}
}

// stepFor is the greatest step that is not above a number, or the first one.
func stepFor(steps []api.Rat, x api.Rat) api.Rat {
	out := steps[0]
	for _, s := range steps {
		if toBig(s).Cmp(toBig(x)) <= 0 {
			out = s
		}
	}
	return out
}

// Promise 10.4: entries that are numbers may be changed for their steps, one by one and all together.
func TestStepsStandForNumbers(t *testing.T) {
	d := dice(17)
	for range 3000 {
		m := d.anyModel(4, 6)
		r := d.anyRow(m.Features)
		for i := range r {
			if d.below(3) == 0 {
				r[i] = api.Cell{Value: ratio.Add(d.anyNumber(), ratio.Frac(d.below(200)-100, 7))}
			}
		}
		want, e := route.Each(m, r)
		if e != api.OK {
			t.Fatal(e)
		}
		all := slices.Clone(r)
		for i, c := range r {
			if c.Missing {
				continue
			}
			steps, e := route.Steps(m, i)
			if e != api.OK {
				t.Fatal(e)
			}
			changed := slices.Clone(r)
			changed[i].Value = stepFor(steps, c.Value)
			all[i] = changed[i]
			if i < 6 || i == 63 {
				wantSame(t, m, changed, want)
			}
		}
		wantSame(t, m, all, want)
	}
}

// wantSame asks whether each tree says of a row what it said of another one.
func wantSame(t *testing.T, m api.Model, r []api.Cell, want []api.Rat) {
	t.Helper()
	got, e := route.Each(m, r)
	if e != api.OK || !slices.EqualFunc(got, want, sameLimbs) {
		t.Fatalf("%v of %v: %v, %v; not %v", r, m, got, e, want)
	}
	if x, e := route.Predict(m, r); e != api.OK || !sameLimbs(x, ratio.Sum(want)) {
		t.Fatalf("%v of %v: %v, %v", r, m, x, e)
	}
}
