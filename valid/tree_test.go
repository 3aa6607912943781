package valid_test

import (
	"math/big"
	"slices"
	"testing"

	"dendron/api"
	"dendron/valid"
)

// Promise 8.2: features that splits of any tree ask, once or more; leaves ask for none.
func TestUsed(t *testing.T) {
	asks := func(feature int) []api.Node { return []api.Node{split(feature, 1, 2, "2"), leaf("1"), leaf("1")} }
	for _, c := range []struct {
		m    api.Model
		want []bool
	}{
		{api.Model{}, nil}, {api.Model{Features: 2}, []bool{false, false}}, {one(1, leaf("1")), []bool{false}}, {one(1, asks(0)...), []bool{true}}, {one(3, asks(1)...), []bool{false, true, false}},
		{api.Model{Features: 3, Trees: [][]api.Node{asks(2), {leaf("1")}, asks(0), asks(2)}}, []bool{true, false, true}},
		{one(2, api.Node{Leaf: true, Feature: 1, Cover: leaf("1").Cover}), []bool{false, false}},
		{one(4, chain(3, true)...), []bool{true, true, true, false}},
		{one(64, full(6)...), append(slices.Repeat([]bool{true}, 63), false)}, {one(64, full(7)...), slices.Repeat([]bool{true}, 64)},
	} {
		if got := valid.Used(c.m); !slices.Equal(got, c.want) {
			t.Fatalf("%v of %v, not %v", got, c.m, c.want)
		}
	}
	for _, m := range []api.Model{{Features: 65}, {Features: -1}, one(1, asks(1)...), one(1, split(0, 1, 1, "2"), leaf("1")), {Features: 1, Trees: [][]api.Node{asks(0), {leaf("0")}}}, {Features: 1, Trees: [][]api.Node{asks(0), nil}}} {
		if got := valid.Used(m); len(got) != 0 {
			t.Fatalf("%v of %v", got, m)
		}
	}
}

// Promise 8.2: trees by hand.
func TestDepthAndLeaves(t *testing.T) {
	turned := []api.Node{split(0, 3, 1, "6"), leaf("1"), leaf("2"), split(1, 4, 2, "5"), leaf("3")}
	for _, c := range []struct {
		t        []api.Node
		features int
		depth    int
		want     []int
	}{
		{[]api.Node{leaf("1")}, 0, 0, []int{0}}, {full(1), 1, 1, []int{1, 2}}, {[]api.Node{split(0, 2, 1, "2"), leaf("1"), leaf("1")}, 1, 1, []int{2, 1}},
		{turned, 2, 2, []int{4, 2, 1}}, {turned, 64, 2, []int{4, 2, 1}}, {turned, 1, -1, nil}, {turned, 65, -1, nil}, {turned, -1, -1, nil}, {turned[:4], 2, -1, nil}, {nil, 2, -1, nil},
		{full(2), 3, 2, []int{3, 4, 5, 6}}, {chain(2, true), 2, 2, []int{4, 3, 1}}, {chain(2, false), 2, 2, []int{1, 3, 4}},
	} {
		if depth, got := valid.Depth(c.t, c.features), valid.Leaves(c.t, c.features); depth != c.depth || !slices.Equal(got, c.want) {
			t.Fatalf("%d and %v of %v, not %d and %v", depth, got, c.t, c.depth, c.want)
		}
	}
	if depth := valid.Depth(full(7), 64); depth != 7 {
		t.Fatal(depth)
	}
	for _, left := range []bool{false, true} {
		if depth, l := valid.Depth(chain(127, left), 64), valid.Leaves(chain(127, left), 64); depth != 127 || len(l) != 128 {
			t.Fatal(depth, l)
		}
	}
}

// Promises 8.2 and 8.3: trees by chance, held against other means; leaves and covers are what follows.
func TestTreesByChance(t *testing.T) {
	d := dice(21)
	for round := range 3000 {
		splits := d.below(12)
		if round%100 == 0 {
			splits = 127 - d.below(2)
		}
		features := 1 + d.below(64)
		tree := d.anyTree(splits, features)
		got := valid.Leaves(tree, features)
		if !slices.Equal(got, leavesBySight(tree, 0)) || valid.Depth(tree, features) != depthBySight(tree) {
			t.Fatalf("%v and depth %d of %v", got, valid.Depth(tree, features), tree)
		}
		sum := new(big.Rat)
		for _, k := range got {
			sum.Add(sum, toBig(tree[k].Cover))
		}
		if len(got) != splits+1 || len(got) != (len(tree)+1)/2 || sum.Cmp(toBig(tree[0].Cover)) != 0 {
			t.Fatalf("%d leaves, %v in all, of %v", len(got), sum, tree)
		}
	}
}

// Promise 8.2: Used of models by chance.
func TestUsedByChance(t *testing.T) {
	d := dice(23)
	for range 3000 {
		m := d.anyModel(5, 6)
		want := make([]bool, m.Features)
		for feature := range want {
			want[feature] = slices.ContainsFunc(slices.Concat(m.Trees...), func(n api.Node) bool { return !n.Leaf && n.Feature == feature })
		}
		if got := valid.Used(m); !slices.Equal(got, want) {
			t.Fatalf("%v of %v, not %v", got, m, want)
		}
	}
}
