package linear_test

import (
	"math/big"
	"math/bits"
	"slices"
	"strings"

	"dendron/api"
	"dendron/ratio"
)

// dice gives the same numbers on every run.
type dice uint64

func (d *dice) next() uint64 {
	*d = *d*6364136223846793005 + 1442695040888963407
	return uint64(*d) >> 16
}

func (d *dice) below(n int) int {
	return int(d.next() % uint64(n))
}

func pickOf[T any](d *dice, l ...T) T {
	return l[d.below(len(l))]
}

func number(s string) api.Rat {
	out, e := ratio.Parse(s)
	if e != api.OK {
		panic("no number: " + s)
	}
	return out
}

// row is a row by the words of a line.
func row(s string) []api.Cell {
	var out []api.Cell
	for _, word := range strings.Fields(s) {
		if word == "?" {
			out = append(out, api.Cell{Missing: true})
		} else {
			out = append(out, api.Cell{Value: number(word)})
		}
	}
	return out
}

// soiled is the same number as it may not be: with a divisor in both parts, bits above the 32nd, zeros on top, and memory behind the end.
func soiled(a api.Rat) api.Rat {
	limbs := func(l api.Nat) api.Nat {
		var out api.Nat
		carry := uint64(0)
		for i, x := range l {
			carry += x * 6
			out = append(out, carry&(1<<32-1)|uint64(i+1)<<32)
			carry >>= 32
		}
		return append(out, carry, 5<<32, 77, 88)[:len(out)+2]
	}
	return api.Rat{Num: api.Int{Neg: a.Num.Neg || len(a.Num.Abs) == 0, Abs: limbs(a.Num.Abs)}, Den: limbs(a.Den)}
}

// zeros are 0 as all that it can be.
func zeros() []api.Rat {
	return []api.Rat{ratio.Zero(), {}, {Num: api.Int{Neg: true}, Den: api.Nat{1}}, {Num: api.Int{Neg: true, Abs: api.Nat{5}}}, {Num: api.Int{Abs: api.Nat{0, 1 << 32}}, Den: api.Nat{7}}, {Num: api.Int{Abs: api.Nat{9}}, Den: api.Nat{1 << 32, 0}}}
}

// anyNumber is often one of few, so that entries meet cuts, and cuts one another; in one form or another.
func (d *dice) anyNumber() api.Rat {
	out := number(pickOf(d, "0", "1", "-1", "2", "1/2", "-1/2", "3/2", "5/2", "1/3", "-7/3", "4294967295", "4294967296", "1/4294967296", "-18446744073709551617/3", "123456789012345678901234567890"))
	if d.below(5) == 0 {
		return pickOf(d, zeros()...)
	}
	return d.mixed(out)
}

// mixed is the same number, in its form or not.
func (d *dice) mixed(a api.Rat) api.Rat {
	if d.below(4) == 0 {
		return soiled(a)
	}
	return a
}

// anyCell is missing, with or without a number that must not be looked at, or a number.
func (d *dice) anyCell() api.Cell {
	switch d.below(8) {
	case 0:
		return api.Cell{Missing: true}
	case 1:
		return api.Cell{Missing: true, Value: d.anyNumber()}
	}
	return api.Cell{Value: d.anyNumber()}
}

func (d *dice) anyRow(n int) []api.Cell {
	out := make([]api.Cell, n)
	for i := range out {
		out[i] = d.anyCell()
	}
	return out
}

func leaf(value, cover string) api.Node {
	return api.Node{Leaf: true, Value: number(value), Cover: number(cover)}
}

// split is one to whose left missing entries go, if its cut has a question mark behind it.
func split(feature int, cut string, left, right int, cover string) api.Node {
	at, miss := strings.CutSuffix(cut, "?")
	return api.Node{Feature: feature, Cut: number(at), Left: left, Right: right, Miss: miss, Cover: number(cover)}
}

func model(features int, trees ...[]api.Node) api.Model {
	return api.Model{Features: features, Trees: trees}
}

// plant lays a tree of so many splits below the place at, the other places taken from the free ones.
func (d *dice) plant(t []api.Node, at, splits, features int, free *[]int) {
	if splits == 0 {
		t[at] = api.Node{Leaf: true, Value: d.anyNumber(), Cover: d.mixed(ratio.Frac(1+d.below(9), 1+d.below(4)))}
		if d.below(3) == 0 {
			// What a leaf has no need of may be anything within the limits.
			t[at].Feature, t[at].Left, t[at].Right, t[at].Miss, t[at].Cut = pickOf(d, 64, d.below(65)), d.below(256), d.below(256), true, d.anyNumber()
		}
		return
	}
	left, right := (*free)[0], (*free)[1]
	*free = (*free)[2:]
	below := pickOf(d, 0, splits-1, d.below(splits))
	d.plant(t, left, below, features, free)
	d.plant(t, right, splits-1-below, features, free)
	t[at] = api.Node{Feature: d.below(features), Cut: d.anyNumber(), Left: left, Right: right, Miss: d.below(2) == 0, Value: d.anyNumber(), Cover: d.mixed(ratio.Add(t[left].Cover, t[right].Cover))}
}

// anyTree is one that may be, its nodes in any places.
func (d *dice) anyTree(splits, features int) []api.Node {
	var free []int
	for i := range 2 * splits {
		free = slices.Insert(free, d.below(i+1), i+1)
	}
	t := make([]api.Node, 2*splits+1)
	d.plant(t, 0, splits, features, &free)
	return t
}

// anyModel is one that may be, of few features, so that these are asked again and again.
func (d *dice) anyModel(trees, splits int) api.Model {
	m := api.Model{Features: pickOf(d, 0, 1, 2, 3, 3, 5, 64)}
	for range d.below(trees + 1) {
		most := splits
		if m.Features == 0 {
			most = 0
		}
		m.Trees = append(m.Trees, d.anyTree(d.below(most+1), m.Features))
	}
	return m
}

// wrongModels are models that may not be, each by another rule.
func wrongModels() []api.Model {
	return []api.Model{
		{Features: -1}, {Features: 65}, model(1, nil), model(1, slices.Repeat([]api.Node{leaf("1", "1")}, 256)),
		{Features: 1, Trees: slices.Repeat([][]api.Node{{leaf("1", "1")}}, 65)},
		model(1, []api.Node{split(1, "0", 1, 2, "2"), leaf("1", "1"), leaf("1", "1")}),
		model(1, []api.Node{split(-1, "0", 1, 2, "2"), leaf("1", "1"), leaf("1", "1")}),
		model(1, []api.Node{split(0, "0", 1, 3, "2"), leaf("1", "1"), leaf("1", "1")}),
		model(1, []api.Node{split(0, "0", 0, 2, "2"), leaf("1", "1"), leaf("1", "1")}),
		model(1, []api.Node{split(0, "0", 1, 1, "2"), leaf("1", "1"), leaf("1", "1")}),
		model(1, []api.Node{leaf("1", "1"), split(0, "0", 1, 2, "2"), leaf("1", "1")}),
		model(1, []api.Node{leaf("1", "0")}), model(1, []api.Node{leaf("1", "-1")}), model(1, []api.Node{{Leaf: true, Value: ratio.One()}}),
		model(1, []api.Node{split(0, "0", 1, 2, "3"), leaf("1", "1"), leaf("1", "1")}),
		model(1, []api.Node{leaf("1", "1")}, []api.Node{split(0, "0", 1, 2, "3"), leaf("1", "1"), leaf("1", "1")}),
	}
}

func toBig(a api.Rat) *big.Rat {
	part := func(l api.Nat) *big.Int {
		out := new(big.Int)
		for _, x := range slices.Backward(l) {
			out.Lsh(out, 32)
			out.Or(out, big.NewInt(int64(x&(1<<32-1))))
		}
		return out
	}
	num, den := part(a.Num.Abs), part(a.Den)
	if den.Sign() == 0 {
		return new(big.Rat)
	}
	if a.Num.Neg {
		num.Neg(num)
	}
	return new(big.Rat).SetFrac(num, den)
}

// isBig asks for the one form of a number, limb by limb.
func isBig(a api.Rat, want *big.Rat) bool {
	return sameLimbs(a, number(want.RatString()))
}

func sameLimbs(a, b api.Rat) bool {
	return a.Num.Neg == b.Num.Neg && slices.Equal(a.Num.Abs, b.Num.Abs) && slices.Equal(a.Den, b.Den)
}

// goes tells, by means that the program has not, whether an entry goes to that child of a split.
func goes(n api.Node, c api.Cell, child int) bool {
	left := toBig(n.Cut).Cmp(toBig(c.Value)) == 1
	if c.Missing {
		left = n.Miss
	}
	return left == (child == n.Left)
}

// climb is the way from a node up to the root: the node, its parent, and so on.
func climb(t []api.Node, at int) []int {
	out := []int{at}
	for at > 0 {
		at = slices.IndexFunc(t, func(n api.Node) bool { return !n.Leaf && (n.Left == at || n.Right == at) })
		out = append(out, at)
	}
	return out
}

// quotient is a cover divided by another one.
func quotient(a, b api.Node) *big.Rat {
	return new(big.Rat).Quo(toBig(a.Cover), toBig(b.Cover))
}

// known tells, by means that the program has not, whether a set has a feature.
func known(set uint64, feature int) bool {
	return feature >= 0 && feature <= 63 && new(big.Int).SetUint64(set).Bit(feature) == 1
}

// saysBySight is what a tree says below a node, where a set is known, as the chapter's words have it.
func saysBySight(t []api.Node, at int, r []api.Cell, set uint64) *big.Rat {
	n := t[at]
	switch {
	case n.Leaf:
		return toBig(n.Value)
	case !known(set, n.Feature):
		left, right := saysBySight(t, n.Left, r, set), saysBySight(t, n.Right, r, set)
		return left.Add(left.Mul(left, quotient(t[n.Left], n)), right.Mul(right, quotient(t[n.Right], n)))
	case goes(n, r[n.Feature], n.Left):
		return saysBySight(t, n.Left, r, set)
	}
	return saysBySight(t, n.Right, r, set)
}

func modelBySight(m api.Model, r []api.Cell, set uint64) *big.Rat {
	out := new(big.Rat)
	for _, t := range m.Trees {
		out.Add(out, saysBySight(t, 0, r, set))
	}
	return out
}

// three is a model whose first tree's nodes stand in another order than they are come to.
func three() api.Model {
	return model(2,
		[]api.Node{split(0, "1/2", 4, 1, "4"), split(1, "0?", 3, 2, "3"), leaf("5", "2"), leaf("2", "1"), leaf("1", "1")},
		[]api.Node{leaf("-1/3", "7")},
		[]api.Node{split(1, "5", 2, 1, "2/3"), leaf("100", "1/2"), leaf("0", "1/6")})
}

// chain is a tree of so many splits, one below the other, on the left or on the right, of so many features in turn.
func chain(splits, features int, left bool) []api.Node {
	var t []api.Node
	for i := range splits {
		a, b, cut := 2*i+1, 2*i+2, i-splits
		if left {
			a, b, cut = b, a, splits-i
		}
		t = append(t, api.Node{Feature: i % features, Cut: ratio.Of(cut), Left: a, Right: b, Cover: ratio.Of(splits - i + 1)}, leaf("1", "1"))
	}
	return append(t, leaf("5", "1"))
}

// weighed is a tree with other covers, and other values, of its leaves.
func (d *dice) weighed(t []api.Node, at int) []api.Node {
	n := &t[at]
	if n.Leaf {
		n.Value, n.Cover = ratio.Of(d.below(100)-50), ratio.Of(1+d.below(1000))
		return t
	}
	d.weighed(t, n.Left)
	d.weighed(t, n.Right)
	n.Cover = ratio.Add(t[n.Left].Cover, t[n.Right].Cover)
	return t
}

// empty tells whether a number is api.Rat{}, as it stands beside an error.
func empty(a api.Rat) bool {
	return !a.Num.Neg && a.Num.Abs == nil && a.Den == nil
}

func product(n int) *big.Int {
	return new(big.Int).MulRange(1, int64(n))
}

// counts is a! b! / n!.
func counts(a, b, n int) *big.Rat {
	return new(big.Rat).SetFrac(new(big.Int).Mul(product(a), product(b)), product(n))
}

// addsBySight is what a feature adds, as chapter 15 has it: over all sets of the others.
func addsBySight(m api.Model, r []api.Cell, feature int) *big.Rat {
	out := new(big.Rat)
	for set := range uint64(1) << m.Features {
		if !known(set, feature) {
			more := new(big.Rat).Sub(modelBySight(m, r, set|1<<feature), modelBySight(m, r, set))
			size := bits.OnesCount64(set)
			out.Add(out, more.Mul(more, counts(size, m.Features-size-1, m.Features)))
		}
	}
	return out
}

// valuesBySets goes through all sets of features.
func valuesBySets(m api.Model, r []api.Cell) []*big.Rat {
	out := make([]*big.Rat, m.Features)
	for feature := range out {
		out[feature] = addsBySight(m, r, feature)
	}
	return out
}

// part is a feature on the way to a leaf, in numbers that the program has not.
type part struct {
	feature int
	share   *big.Rat
	ok      bool
}

// leg is the way to a leaf.
type leg struct {
	value *big.Rat
	parts []part
}

// legBySight goes upwards from a leaf once for each feature.
func legBySight(t []api.Node, k int, r []api.Cell) leg {
	out := leg{value: toBig(t[k].Value)}
	way := climb(t, k)
	for feature := range r {
		p, asked := part{feature, big.NewRat(1, 1), true}, false
		for i, up := range way[1:] {
			if n := t[up]; n.Feature == feature {
				asked = true
				p.share.Mul(p.share, quotient(t[way[i]], n))
				p.ok = p.ok && goes(n, r[feature], way[i])
			}
		}
		if asked {
			out.parts = append(out.parts, p)
		}
	}
	return out
}

// sums are, for each number of the parts, the sum over all so many that are all ok of the product of the shares of the others.
func sums(l []part) []*big.Rat {
	out := []*big.Rat{big.NewRat(1, 1)}
	for _, p := range l {
		next := make([]*big.Rat, len(out)+1)
		for k := range next {
			next[k] = new(big.Rat)
			if k < len(out) {
				next[k].Mul(out[k], p.share)
			}
			if k > 0 && p.ok {
				next[k].Add(next[k], out[k-1])
			}
		}
		out = next
	}
	return out
}

// adds is what the part at a place adds at a leg, as the chapter has it.
func (l leg) adds(place int) *big.Rat {
	out := new(big.Rat)
	n := len(l.parts)
	for k, x := range sums(slices.Concat(l.parts[:place], l.parts[place+1:])) {
		out.Add(out, x.Mul(x, counts(k, n-k-1, n)))
	}
	change := new(big.Rat).Neg(l.parts[place].share)
	if l.parts[place].ok {
		change.Add(change, big.NewRat(1, 1))
	}
	return out.Mul(out, change.Mul(change, l.value))
}

// valuesByLegs goes through all leaves, as the chapter has it.
func valuesByLegs(m api.Model, r []api.Cell) []*big.Rat {
	out := make([]*big.Rat, m.Features)
	for feature := range out {
		out[feature] = new(big.Rat)
	}
	for _, t := range m.Trees {
		for k, n := range t {
			if !n.Leaf {
				continue
			}
			l := legBySight(t, k, r)
			for place, p := range l.parts {
				out[p.feature].Add(out[p.feature], l.adds(place))
			}
		}
	}
	return out
}

// anyLeg is one that hangs on no tree: of any shares, also 0 and below, of any features, also the same ones; and its parts in numbers that the program has not.
func (d *dice) anyLeg(n int) (api.Leg, []part) {
	out := api.Leg{Node: d.below(300) - 20, Value: d.anyNumber()}
	var parts []part
	for range n {
		p := api.Part{Feature: d.below(100) - 20, Share: d.anyNumber(), Ok: d.below(3) > 0}
		out.Parts = append(out.Parts, p)
		parts = append(parts, part{p.Feature, toBig(p.Share), p.Ok})
	}
	return out, parts
}

// curveBySets is the polynomial of parts by all sets of them: of those in the set x, if they are all ok, of the others the share.
func curveBySets(l []part) []*big.Rat {
	out := make([]*big.Rat, len(l)+1)
	for k := range out {
		out[k] = new(big.Rat)
	}
	for set := range uint64(1) << len(l) {
		x := big.NewRat(1, 1)
		for i, p := range l {
			switch {
			case !known(set, i):
				x.Mul(x, p.share)
			case !p.ok:
				x.SetInt64(0)
			}
		}
		size := bits.OnesCount64(set)
		out[size].Add(out[size], x)
	}
	return out
}

// isCurve asks for the one form of a polynomial.
func isCurve(got []api.Rat, want []*big.Rat) bool {
	for len(want) > 0 && want[len(want)-1].Sign() == 0 {
		want = want[:len(want)-1]
	}
	return slices.EqualFunc(got, want, isBig)
}
