package depend_test

import (
	"math/big"
	"slices"
	"strings"

	"dendron/api"
	"dendron/ratio"
)

// dice gives the same numbers on every run.
type dice uint64

func (d *dice) next() uint64 {
	*d = *d*6364136223846793005 + 1442695040888963407
	return uint64(*d) >> 16
}

func (d *dice) below(n int) int {
	return int(d.next() % uint64(n))
}

func pickOf[T any](d *dice, l ...T) T {
	return l[d.below(len(l))]
}

func number(s string) api.Rat {
	out, e := ratio.Parse(s)
	if e != api.OK {
		panic("no number: " + s)
	}
	return out
}

// row is a row by the words of a line.
func row(s string) []api.Cell {
	var out []api.Cell
	for _, word := range strings.Fields(s) {
		if word == "?" {
			out = append(out, api.Cell{Missing: true})
		} else {
			out = append(out, api.Cell{Value: number(word)})
		}
	}
	return out
}

// table is rows with a bar between two.
func table(s string) [][]api.Cell {
	var out [][]api.Cell
	for line := range strings.SplitSeq(s, "|") {
		out = append(out, row(line))
	}
	return out
}

// soiled is the same number as it may not be: with a divisor in both parts, bits above the 32nd, zeros on top, and memory behind the end.
func soiled(a api.Rat) api.Rat {
	limbs := func(l api.Nat) api.Nat {
		var out api.Nat
		carry := uint64(0)
		for i, x := range l {
			carry += x * 6
			out = append(out, carry&(1<<32-1)|uint64(i+1)<<32)
			carry >>= 32
		}
		return append(out, carry, 5<<32, 77, 88)[:len(out)+2]
	}
	return api.Rat{Num: api.Int{Neg: a.Num.Neg || len(a.Num.Abs) == 0, Abs: limbs(a.Num.Abs)}, Den: limbs(a.Den)}
}

// zeros are 0 as all that it can be.
func zeros() []api.Rat {
	return []api.Rat{ratio.Zero(), {}, {Num: api.Int{Neg: true}, Den: api.Nat{1}}, {Num: api.Int{Neg: true, Abs: api.Nat{5}}}, {Num: api.Int{Abs: api.Nat{0, 1 << 32}}, Den: api.Nat{7}}, {Num: api.Int{Abs: api.Nat{9}}, Den: api.Nat{1 << 32, 0}}}
}

// anyNumber is often one of few, so that entries meet cuts, and cuts one another; in one form or another.
func (d *dice) anyNumber() api.Rat {
	out := number(pickOf(d, "0", "1", "-1", "2", "1/2", "-1/2", "3/2", "5/2", "1/3", "-7/3", "4294967295", "4294967296", "1/4294967296", "-18446744073709551617/3", "123456789012345678901234567890"))
	if d.below(5) == 0 {
		return pickOf(d, zeros()...)
	}
	return d.mixed(out)
}

// mixed is the same number, in its form or not.
func (d *dice) mixed(a api.Rat) api.Rat {
	if d.below(4) == 0 {
		return soiled(a)
	}
	return a
}

// anyCell is missing, with or without a number that must not be looked at, or a number.
func (d *dice) anyCell() api.Cell {
	switch d.below(8) {
	case 0:
		return api.Cell{Missing: true}
	case 1:
		return api.Cell{Missing: true, Value: d.anyNumber()}
	}
	return api.Cell{Value: d.anyNumber()}
}

// anyRow is also any grid of so many entries.
func (d *dice) anyRow(n int) []api.Cell {
	out := make([]api.Cell, n)
	for i := range out {
		out[i] = d.anyCell()
	}
	return out
}

func (d *dice) anyRows(n, features int) [][]api.Cell {
	var out [][]api.Cell
	for range n {
		out = append(out, d.anyRow(features))
	}
	return out
}

func leaf(value, cover string) api.Node {
	return api.Node{Leaf: true, Value: number(value), Cover: number(cover)}
}

// split is one to whose left missing entries go, if its cut has a question mark behind it.
func split(feature int, cut string, left, right int, cover string) api.Node {
	at, miss := strings.CutSuffix(cut, "?")
	return api.Node{Feature: feature, Cut: number(at), Left: left, Right: right, Miss: miss, Cover: number(cover)}
}

func model(features int, trees ...[]api.Node) api.Model {
	return api.Model{Features: features, Trees: trees}
}

// plant lays a tree of so many splits below the place at, the other places taken from the free ones.
func (d *dice) plant(t []api.Node, at, splits, features int, free *[]int) {
	if splits == 0 {
		t[at] = api.Node{Leaf: true, Value: d.anyNumber(), Cover: d.mixed(ratio.Frac(1+d.below(9), 1+d.below(4)))}
		if d.below(3) == 0 {
			// What a leaf has no need of may be anything within the limits.
			t[at].Feature, t[at].Left, t[at].Right, t[at].Miss, t[at].Cut = pickOf(d, 64, d.below(65)), d.below(256), d.below(256), true, d.anyNumber()
		}
		return
	}
	left, right := (*free)[0], (*free)[1]
	*free = (*free)[2:]
	below := pickOf(d, 0, splits-1, d.below(splits))
	d.plant(t, left, below, features, free)
	d.plant(t, right, splits-1-below, features, free)
	t[at] = api.Node{Feature: d.below(features), Cut: d.anyNumber(), Left: left, Right: right, Miss: d.below(2) == 0, Value: d.anyNumber(), Cover: d.mixed(ratio.Add(t[left].Cover, t[right].Cover))}
}

// anyTree is one that may be, its nodes in any places.
func (d *dice) anyTree(splits, features int) []api.Node {
	var free []int
	for i := range 2 * splits {
		free = slices.Insert(free, d.below(i+1), i+1)
	}
	t := make([]api.Node, 2*splits+1)
	d.plant(t, 0, splits, features, &free)
	return t
}

// anyModel is one that may be, of few features, so that these are asked again and again.
func (d *dice) anyModel(trees, splits int) api.Model {
	m := api.Model{Features: pickOf(d, 0, 1, 2, 3, 3, 5, 64)}
	for range d.below(trees + 1) {
		most := splits
		if m.Features == 0 {
			most = 0
		}
		m.Trees = append(m.Trees, d.anyTree(d.below(most+1), m.Features))
	}
	return m
}

// wrongModels are models that may not be, each by another rule.
func wrongModels() []api.Model {
	return []api.Model{
		{Features: -1}, {Features: 65}, model(1, nil), model(1, slices.Repeat([]api.Node{leaf("1", "1")}, 256)),
		{Features: 1, Trees: slices.Repeat([][]api.Node{{leaf("1", "1")}}, 65)},
		model(1, []api.Node{split(1, "0", 1, 2, "2"), leaf("1", "1"), leaf("1", "1")}),
		model(1, []api.Node{split(-1, "0", 1, 2, "2"), leaf("1", "1"), leaf("1", "1")}),
		model(1, []api.Node{split(0, "0", 1, 3, "2"), leaf("1", "1"), leaf("1", "1")}),
		model(1, []api.Node{split(0, "0", 0, 2, "2"), leaf("1", "1"), leaf("1", "1")}),
		model(1, []api.Node{split(0, "0", 1, 1, "2"), leaf("1", "1"), leaf("1", "1")}),
		model(1, []api.Node{leaf("1", "1"), split(0, "0", 1, 2, "2"), leaf("1", "1")}),
		model(1, []api.Node{leaf("1", "0")}), model(1, []api.Node{leaf("1", "-1")}), model(1, []api.Node{{Leaf: true, Value: ratio.One()}}),
		model(1, []api.Node{split(0, "0", 1, 2, "3"), leaf("1", "1"), leaf("1", "1")}),
		model(1, []api.Node{leaf("1", "1")}, []api.Node{split(0, "0", 1, 2, "3"), leaf("1", "1"), leaf("1", "1")}),
	}
}

func toBig(a api.Rat) *big.Rat {
	part := func(l api.Nat) *big.Int {
		out := new(big.Int)
		for _, x := range slices.Backward(l) {
			out.Lsh(out, 32)
			out.Or(out, big.NewInt(int64(x&(1<<32-1))))
		}
		return out
	}
	num, den := part(a.Num.Abs), part(a.Den)
	if den.Sign() == 0 {
		return new(big.Rat)
	}
	if a.Num.Neg {
		num.Neg(num)
	}
	return new(big.Rat).SetFrac(num, den)
}

// isBig asks for the one form of a number, limb by limb.
func isBig(a api.Rat, want *big.Rat) bool {
	return sameLimbs(a, number(want.RatString()))
}

func sameLimbs(a, b api.Rat) bool {
	return a.Num.Neg == b.Num.Neg && slices.Equal(a.Num.Abs, b.Num.Abs) && slices.Equal(a.Den, b.Den)
}

// goes tells, by means that the program has not, whether an entry goes to that child of a split.
func goes(n api.Node, c api.Cell, child int) bool {
	left := toBig(n.Cut).Cmp(toBig(c.Value)) == 1
	if c.Missing {
		left = n.Miss
	}
	return left == (child == n.Left)
}

// climb is the way from a node up to the root: the node, its parent, and so on.
func climb(t []api.Node, at int) []int {
	out := []int{at}
	for at > 0 {
		at = slices.IndexFunc(t, func(n api.Node) bool { return !n.Leaf && (n.Left == at || n.Right == at) })
		out = append(out, at)
	}
	return out
}

// wayBySight looks for the leaf from which the way upwards is the row's own at each split.
func wayBySight(t []api.Node, r []api.Cell) []int {
	for k, n := range t {
		if !n.Leaf {
			continue
		}
		way := climb(t, k)
		own := true
		for i, up := range way[1:] {
			own = own && goes(t[up], r[t[up].Feature], way[i])
		}
		if own {
			slices.Reverse(way)
			return way
		}
	}
	return nil
}

// coverBySight is what a tree says below a node, where one feature alone is known, as the chapters' words have it.
func coverBySight(t []api.Node, at, feature int, z api.Cell) *big.Rat {
	n := t[at]
	out := new(big.Rat)
	if n.Leaf {
		return out.Set(toBig(n.Value))
	}
	for _, child := range [2]int{n.Left, n.Right} {
		part := new(big.Rat).Quo(toBig(t[child].Cover), toBig(n.Cover))
		if n.Feature == feature {
			part.SetInt64(0)
			if goes(n, z, child) {
				part.SetInt64(1)
			}
		}
		out.Add(out, part.Mul(part, coverBySight(t, child, feature, z)))
	}
	return out
}

// allCovers is what a model says of each entry of a grid.
func allCovers(m api.Model, feature int, grid []api.Cell) []*big.Rat {
	var out []*big.Rat
	for _, z := range grid {
		sum := new(big.Rat)
		for _, t := range m.Trees {
			sum.Add(sum, coverBySight(t, 0, feature, z))
		}
		out = append(out, sum)
	}
	return out
}

// allAverages turns each row, and predicts of it, for each entry of a grid.
func allAverages(m api.Model, feature int, grid []api.Cell, l [][]api.Cell) []*big.Rat {
	var out []*big.Rat
	for _, z := range grid {
		sum := new(big.Rat)
		for _, r := range l {
			turned := slices.Clone(r)
			turned[feature] = z
			for _, t := range m.Trees {
				way := wayBySight(t, turned)
				sum.Add(sum, toBig(t[way[len(way)-1]].Value))
			}
		}
		out = append(out, sum.Quo(sum, big.NewRat(int64(len(l)), 1)))
	}
	return out
}

// three is a model whose first tree's nodes stand in another order than they are come to.
func three() api.Model {
	return model(2,
		[]api.Node{split(0, "1/2", 4, 1, "4"), split(1, "0?", 3, 2, "3"), leaf("5", "2"), leaf("2", "1"), leaf("1", "1")},
		[]api.Node{leaf("-1/3", "7")},
		[]api.Node{split(1, "5", 2, 1, "2/3"), leaf("100", "1/2"), leaf("0", "1/6")})
}

// chain is a tree of so many splits, one below the other, on the left or on the right, of so many features in turn.
func chain(splits, features int, left bool) []api.Node {
	var t []api.Node
	for i := range splits {
		a, b, cut := 2*i+1, 2*i+2, i-splits
		if left {
			a, b, cut = b, a, splits-i
		}
		t = append(t, api.Node{Feature: i % features, Cut: ratio.Of(cut), Left: a, Right: b, Cover: ratio.Of(splits - i + 1)}, leaf("1", "1"))
	}
	return append(t, leaf("5", "1"))
}
