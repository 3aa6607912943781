package depend_test

import (
	"math/big"
	"slices"
	"testing"

	"dendron/api"
	"dendron/depend"
	"dendron/expect"
	"dendron/ratio"
	"dendron/route"
)

// wantCurve asks for the steps of the feature, and what Cover says at each and of a missing entry.
func wantCurve(t *testing.T, m api.Model, i int) {
	t.Helper()
	want, _ := route.Steps(m, i)
	steps, said, missing, e := depend.Curve(m, i)
	if e != api.OK || !slices.EqualFunc(steps, want, sameLimbs) {
		t.Fatalf("%d of %v: %v, %v; not %v", i, m, steps, e, want)
	}
	var grid []api.Cell
	for _, x := range want {
		grid = append(grid, api.Cell{Value: x})
	}
	covers := allCovers(m, i, append(grid, api.Cell{Missing: true}))
	if !slices.EqualFunc(said, covers[:len(want)], isBig) || !isBig(missing, covers[len(want)]) {
		t.Fatalf("%d of %v: %v, %v; not %v", i, m, said, missing, covers)
	}
}

// Promise 13.2: the steps, what is said at each, and of a missing entry.
func TestCurve(t *testing.T) {
	steps, said, missing, e := depend.Curve(three(), 0)
	wantTexts(t, steps, e, "-1/2", "1/2")
	wantTexts(t, append(said, missing), e, "227/3", "236/3", "236/3")
	steps, said, missing, e = depend.Curve(three(), 1)
	wantTexts(t, steps, e, "-1", "0", "5")
	wantTexts(t, append(said, missing), e, "17/12", "11/3", "311/3", "1217/12")
}

// Promises 13.2, 13.3: of a feature that no split asks there is one step, at which the base is said, as of a missing entry.
func TestCurveOfUnasked(t *testing.T) {
	for _, m := range []api.Model{{Features: 64}, model(64, []api.Node{leaf("7", "2")}), model(64, []api.Node{split(5, "9", 1, 2, "4"), leaf("0", "1"), leaf("1", "3")})} {
		base, _ := expect.Base(m)
		for i := range 64 {
			wantCurve(t, m, i)
			if i == 5 {
				continue
			}
			steps, said, missing, e := depend.Curve(m, i)
			wantTexts(t, steps, e, "0")
			wantTexts(t, append(said, missing), e, ratio.Print(base), ratio.Print(base))
		}
	}
}

// Promises 13.2, 13.3: models by chance; Cover at any number is the curve at the place of its step.
func TestCurveByChance(t *testing.T) {
	d := dice(11)
	for range 3000 {
		m := d.anyModel(4, 7)
		if m.Features == 0 {
			continue
		}
		i := d.below(m.Features)
		wantCurve(t, m, i)
		steps, said, _, _ := depend.Curve(m, i)
		for range 5 {
			z := d.anyNumber()
			if x, e := depend.Cover(m, i, api.Cell{Value: z}); e != api.OK || !sameLimbs(x, said[depend.At(steps, z)]) {
				t.Fatalf("%d of %v at %v: %v, %v; not %v", i, m, z, x, e, said)
			}
		}
	}
}

// Promise 13.2: as many steps as there can be, each with something of its own to say, in time.
func TestMostCurve(t *testing.T) {
	d := dice(13)
	for _, features := range []int{1, 5, 64} {
		m := api.Model{Features: features}
		for k := range 64 {
			tree := d.weighed(chain(127, features, d.below(2) == 0))
			for i := range tree {
				tree[i].Cut = ratio.Add(tree[i].Cut, ratio.Frac(k, 64))
			}
			m.Trees = append(m.Trees, tree)
		}
		steps, said, missing, e := depend.Curve(m, 0)
		want, _ := route.Steps(m, 0)
		if e != api.OK || len(said) != len(want) || !slices.EqualFunc(steps, want, sameLimbs) || features == 1 && len(want) < 8000 {
			t.Fatalf("%d: %d %d, %v", features, len(steps), len(said), e)
		}
		for k := 0; k < len(want); k += 997 {
			r := make([]api.Cell, features)
			r[0].Value = want[k]
			if x, _ := expect.Value(m, r, 1); !sameLimbs(x, said[k]) {
				t.Fatalf("%d at %v: another number", features, want[k])
			}
		}
		if x, _ := expect.Value(m, slices.Repeat([]api.Cell{{Missing: true}}, features), 1); !sameLimbs(x, missing) {
			t.Fatalf("%d: another number of a missing entry", features)
		}
	}
}

// weighed is a chain with other covers, and other values, of its leaves.
func (d *dice) weighed(t []api.Node) []api.Node {
	for i := len(t) - 1; i >= 0; i-- {
		if t[i].Leaf {
			t[i].Value, t[i].Cover = ratio.Of(d.below(100)), ratio.Of(1+d.below(1000))
		} else {
			t[i].Cover = ratio.Add(t[t[i].Left].Cover, t[t[i].Right].Cover)
		}
	}
	return t
}

// Promise 13.2: the last place above 0 whose step is not above the number, whatever the order of the steps.
func TestAt(t *testing.T) {
	for _, c := range []struct {
		steps, z string
		want     int
	}{
		{"0 1 2", "3/2", 1}, {"0 1 2", "1", 1}, {"0 1 2", "2", 2}, {"0 1 2", "99", 2}, {"0 1 2", "0", 0}, {"0 1 2", "1/2", 0}, {"0 1 2", "-5", 0}, {"0 1 2", "999999999999999999999/1000000000000000000000", 0},
		{"", "0", 0}, {"", "5", 0}, {"0", "5", 0}, {"0", "0", 0}, {"0", "-5", 0}, {"9 1", "1", 1}, {"9 1", "0", 0}, {"-9 1", "0", 0},
		{"0 3 1 2", "5/2", 3}, {"0 1 3 2", "1", 1}, {"0 5 1 9", "6", 2}, {"0 2 1 0", "1", 3}, {"0 9 8 7", "7", 3}, {"0 9 8 7", "6", 0}, {"0 1 9 9 9", "5", 1},
		{"1 1 1 1", "1", 3}, {"1 1 1 2", "1", 2}, {"-3/2 -1 -1/2", "-3/4", 1}, {"-3/2 -1 -1/2", "-1/2", 2},
	} {
		var steps []api.Rat
		for _, z := range row(c.steps) {
			steps = append(steps, z.Value)
		}
		if at := depend.At(steps, number(c.z)); at != c.want {
			t.Fatalf("%s of %s: %d, not %d", c.z, c.steps, at, c.want)
		}
	}
}

// Promise 13.2: steps and numbers by chance, in one form or another, held against all of them one by one.
func TestAtByChance(t *testing.T) {
	d := dice(17)
	for range 5000 {
		var steps []api.Rat
		for range d.below(7) {
			steps = append(steps, d.anyNumber())
		}
		if d.below(2) == 0 {
			slices.SortFunc(steps, func(a, b api.Rat) int { return toBig(a).Cmp(toBig(b)) })
		}
		z := d.anyNumber()
		want := 0
		for k, x := range steps {
			if k > 0 && new(big.Rat).Sub(toBig(z), toBig(x)).Sign() >= 0 {
				want = k
			}
		}
		if at := depend.At(steps, z); at != want {
			t.Fatalf("%v of %v: %d, not %d", z, steps, at, want)
		}
	}
}

// Promise 13.2: splits alone ask, wherever they stand; what a leaf has no need of asks nothing.
func TestUnasked(t *testing.T) {
	d := dice(19)
	for range 3000 {
		m := d.anyModel(4, 5)
		asked := make([]bool, m.Features)
		for _, tree := range m.Trees {
			for _, n := range tree {
				if !n.Leaf {
					asked[n.Feature] = true
				}
			}
		}
		for i, is := range asked {
			if x, e := depend.Unasked(m, i); x == is || e != api.OK {
				t.Fatalf("%d of %v: %v, %v", i, m, x, e)
			}
		}
	}
	m := model(3, []api.Node{{Leaf: true, Feature: 1, Value: ratio.One(), Cover: ratio.One()}}, []api.Node{split(2, "0", 1, 2, "2"), leaf("1", "1"), {Leaf: true, Feature: 1, Cover: ratio.One()}})
	for i, want := range []bool{true, true, false} {
		if x, e := depend.Unasked(m, i); x != want || e != api.OK {
			t.Fatalf("%d: %v, %v", i, x, e)
		}
	}
}
