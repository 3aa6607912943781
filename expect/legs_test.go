package expect_test

import (
	"math"
	"math/big"
	"slices"
	"testing"

	"dendron/api"
	"dendron/expect"
	"dendron/ratio"
)

func wantLegs(t *testing.T, tree []api.Node, r []api.Cell, want ...api.Leg) {
	t.Helper()
	if l, e := expect.Legs(tree, r); e != api.OK || !slices.EqualFunc(l, want, sameLeg) {
		t.Fatalf("%v in %v: %v, %v; not %v", r, tree, l, e, want)
	}
}

func wantNoLegs(t *testing.T, tree []api.Node, r []api.Cell) {
	t.Helper()
	if l, e := expect.Legs(tree, r); e != api.ErrArg || len(l) > 0 {
		t.Fatalf("%v in %v: %v, %v; not refused", r, tree, l, e)
	}
}

func part(feature int, share string, ok bool) api.Part {
	return api.Part{Feature: feature, Share: number(share), Ok: ok}
}

func leg(node int, value string, parts ...api.Part) api.Leg {
	return api.Leg{Node: node, Value: number(value), Parts: parts}
}

// Promise 11.2: leaves from the left, not by their places; parts by their features, not by the order of asking.
func TestLegs(t *testing.T) {
	tree := []api.Node{
		split(3, "1/2", 6, 1, "8"),
		split(1, "0?", 5, 2, "6"),
		split(3, "3", 4, 3, "4"),
		leaf("7", "3"),
		leaf("8/2", "1"),
		leaf("9", "2"),
		leaf("10", "2"),
	}
	for _, c := range []struct {
		line string
		left bool    // whether it goes to the left at node 1
		ok   [4]bool // whether it goes the way to each leaf at all splits of feature 3
	}{
		{"0 0 0 0", false, [4]bool{true, false, false, false}},
		{"0 -1 0 1/2", true, [4]bool{false, true, true, false}},
		{"0 ? 0 3", true, [4]bool{false, true, false, true}},
		{"? 1 ? ?", false, [4]bool{false, true, false, true}},
	} {
		wantLegs(t, tree, row(c.line),
			leg(6, "10", part(3, "1/4", c.ok[0])),
			leg(5, "9", part(1, "1/3", c.left), part(3, "3/4", c.ok[1])),
			leg(4, "4", part(1, "2/3", !c.left), part(3, "3/16", c.ok[2])),
			leg(3, "7", part(1, "2/3", !c.left), part(3, "9/16", c.ok[3])))
	}
}

// Promise 11.2: a leaf alone has no parts, whatever the row.
func TestLegOfLeafAlone(t *testing.T) {
	for n := range 65 {
		wantLegs(t, []api.Node{leaf("-2/4", "3")}, make([]api.Cell, n), leg(0, "-1/2"))
	}
	wantLegs(t, []api.Node{leaf("-2/4", "3")}, nil, leg(0, "-1/2"))
	wantLegs(t, []api.Node{{Leaf: true, Feature: 64, Left: 255, Right: 255, Cover: number("3")}}, nil, leg(0, "0"))
}

// Promise 11.2: trees that may not be for as many features as the row has entries.
func TestNoLegs(t *testing.T) {
	tree := three().Trees[0]
	for n := range 70 {
		r := make([]api.Cell, n)
		if l, e := expect.Legs(tree, r); (n < 2 || n > 64) != (e == api.ErrArg) || e != api.OK && len(l) > 0 {
			t.Fatalf("%d entries: %v, %v", n, l, e)
		}
		wantNoLegs(t, nil, r)
		wantNoLegs(t, []api.Node{}, r)
	}
	wantNoLegs(t, []api.Node{leaf("1", "1")}, make([]api.Cell, 65))
	for _, m := range wrongModels() {
		if m.Features == 1 && len(m.Trees) == 1 {
			wantNoLegs(t, m.Trees[0], row("0"))
		}
	}
	wantNoLegs(t, chain(128, 64, true), make([]api.Cell, 64))
}

// sumOfLegs is what a model says by its legs.
func sumOfLegs(t *testing.T, m api.Model, r []api.Cell, set uint64) api.Rat {
	t.Helper()
	var out []api.Rat
	for _, tree := range m.Trees {
		l, e := expect.Legs(tree, r)
		if e != api.OK {
			t.Fatal(e)
		}
		for _, leg := range l {
			out = append(out, ratio.Mul(expect.Reach(leg, set), leg.Value))
		}
	}
	return ratio.Sum(out)
}

// Promises 11.2, 11.3: legs by chance; what is said is the sum over them.
func TestLegsByChance(t *testing.T) {
	d := dice(31)
	for range 3000 {
		m := d.anyModel(3, 8)
		r := d.anyRow(m.Features)
		for _, tree := range m.Trees {
			var want []api.Leg
			for _, k := range leavesBySight(tree, 0) {
				want = append(want, legBySight(tree, k, r))
			}
			wantLegs(t, tree, r, want...)
		}
		for _, set := range []uint64{0, 1<<64 - 1, d.anySet(), d.anySet()} {
			if x, e := expect.Value(m, r, set); e != api.OK || !sameLimbs(x, sumOfLegs(t, m, r, set)) {
				t.Fatalf("%v of %v where %b is known: %v, %v; not the sum of the legs", r, m, set, x, e)
			}
		}
	}
}

// Promise 11.2: the longest ways, of as many parts as can be, and of one.
func TestLongLegs(t *testing.T) {
	for _, features := range []int{1, 7, 64} {
		for _, left := range []bool{false, true} {
			tree := chain(127, features, left)
			r := make([]api.Cell, 64)
			r[0].Missing = true
			var want []api.Leg
			for _, k := range leavesBySight(tree, 0) {
				want = append(want, legBySight(tree, k, r))
			}
			wantLegs(t, tree, r, want...)
		}
	}
}

func wantReach(t *testing.T, l api.Leg, set uint64, want *big.Rat) {
	t.Helper()
	if x := expect.Reach(l, set); !isBig(x, want) {
		t.Fatalf("%v where %b is known: %v, not %v", l, set, x, want)
	}
}

// Promise 11.2: parts in the set and not, gone and not.
func TestReach(t *testing.T) {
	l := leg(1, "9", part(0, "1/2", true), part(2, "1/3", false), part(63, "3/5", true))
	for set, want := range map[uint64]string{
		0: "1/10", 1: "1/5", 2: "1/10", 3: "1/5", 4: "0", 5: "0", 1 << 63: "1/6", 1<<63 | 1: "1/3", 1<<63 | 5: "0", 1<<64 - 1: "0", 1<<64 - 5: "1/3", 1<<63 | 4: "0", 1 << 62: "1/10",
	} {
		wantReach(t, l, set, toBig(number(want)))
	}
	for _, set := range []uint64{0, 1, 1<<64 - 1} {
		wantReach(t, api.Leg{}, set, big.NewRat(1, 1))
		wantReach(t, leg(-5, "0"), set, big.NewRat(1, 1))
	}
}

// Promise 11.2: what is no feature is in no set; of parts of one feature each counts.
func TestReachOfAnyLeg(t *testing.T) {
	for _, feature := range []int{-1, -2, -64, 64, 65, 127, 128, 1 << 32, math.MinInt, math.MaxInt} {
		for _, ok := range []bool{false, true} {
			wantReach(t, leg(0, "1", part(feature, "-2/7", ok)), 1<<64-1, big.NewRat(-2, 7))
			wantReach(t, leg(0, "1", part(feature, "2/7", ok), part(1, "1/2", true)), 2, big.NewRat(2, 7))
		}
	}
	twice := leg(0, "1", part(5, "1/2", true), part(0, "1/5", true), part(5, "1/3", false), part(5, "7", true))
	wantReach(t, twice, 0, big.NewRat(7, 30))
	wantReach(t, twice, 1, big.NewRat(7, 6))
	wantReach(t, twice, 32, new(big.Rat))
	for _, zero := range zeros() {
		l := leg(0, "1", part(1, "1/2", true), api.Part{Feature: 3, Share: zero, Ok: true})
		wantReach(t, l, 0, new(big.Rat))
		wantReach(t, l, 8, big.NewRat(1, 2))
		wantReach(t, api.Leg{Parts: l.Parts[1:]}, 0, new(big.Rat))
		wantReach(t, api.Leg{Parts: l.Parts[1:]}, 8, big.NewRat(1, 1))
	}
	wantReach(t, api.Leg{Parts: []api.Part{{Share: soiled(number("-6/7"))}}}, 0, big.NewRat(-6, 7))
}

// Promise 11.2: legs by chance that no tree has.
func TestReachByChance(t *testing.T) {
	d := dice(37)
	for range 5000 {
		var l api.Leg
		for range d.below(7) {
			l.Parts = append(l.Parts, api.Part{Feature: pickOf(&d, d.below(8), d.below(64), d.below(300)-100), Share: d.anyNumber(), Ok: d.below(4) > 0})
		}
		for range 4 {
			set := d.anySet()
			wantReach(t, l, set, reachBySight(l, set))
		}
	}
}

// Promise 11.2: very many parts, in time.
func TestReachOfMuch(t *testing.T) {
	parts := slices.Repeat([]api.Part{part(1, "2/3", true), part(2, "5/7", true)}, 10000)
	power := func(n int64) *big.Int { return new(big.Int).Exp(big.NewInt(n), big.NewInt(10000), nil) }
	want := new(big.Rat).SetFrac(power(10), power(21))
	got := expect.Reach(api.Leg{Parts: parts}, 1)
	if toBig(got).Cmp(want) != 0 || !ratio.Right(got) {
		t.Fatal("not the product of all")
	}
	wantReach(t, api.Leg{Parts: parts}, 6, big.NewRat(1, 1))
}
