package valid_test

import (
	"math/big"
	"slices"
	"strconv"
	"testing"

	"dendron/api"
	"dendron/ratio"
	"dendron/valid"
)

// dice gives the same numbers on every run.
type dice uint64

func (d *dice) next() uint64 {
	*d = *d*6364136223846793005 + 1442695040888963407
	return uint64(*d) >> 16
}

func (d *dice) below(n int) int {
	return int(d.next() % uint64(n))
}

func pickOf[T any](d *dice, l ...T) T {
	return l[d.below(len(l))]
}

func number(s string) api.Rat {
	out, e := ratio.Parse(s)
	if e != api.OK {
		panic("no number: " + s)
	}
	return out
}

// soiled is the same number as it may not be: with a divisor in both parts, bits above the 32nd, zeros on top, and memory behind the end.
func soiled(a api.Rat) api.Rat {
	limbs := func(l api.Nat) api.Nat {
		var out api.Nat
		carry := uint64(0)
		for i, x := range l {
			carry += x * 6
			out = append(out, carry&(1<<32-1)|uint64(i+1)<<32)
			carry >>= 32
		}
		return append(out, carry, 5<<32, 77, 88)[:len(out)+2]
	}
	return api.Rat{Num: api.Int{Neg: a.Num.Neg || len(a.Num.Abs) == 0, Abs: limbs(a.Num.Abs)}, Den: limbs(a.Den)}
}

// mixed is the same number, in one form or another.
func (d *dice) mixed(a api.Rat) api.Rat {
	if d.below(4) == 0 {
		return soiled(a)
	}
	return a
}

func (d *dice) anyCover() api.Rat {
	return number(pickOf(d, "1", "2", "1/2", "1/3", "7/6", "4294967295", "4294967296", "1/4294967296", "18446744073709551615/7", strconv.Itoa(1+d.below(100))))
}

func leaf(cover string) api.Node {
	return api.Node{Leaf: true, Value: ratio.Zero(), Cover: number(cover)}
}

func split(feature, left, right int, cover string) api.Node {
	return api.Node{Feature: feature, Cut: ratio.Zero(), Left: left, Right: right, Cover: number(cover)}
}

func one(features int, t ...api.Node) api.Model {
	return api.Model{Features: features, Trees: [][]api.Node{t}}
}

// plant lays a tree of so many splits below the place at, the other places taken from the free ones.
func (d *dice) plant(t []api.Node, at, splits, features int, free *[]int) {
	if splits == 0 {
		t[at] = api.Node{Leaf: true, Value: ratio.Of(d.below(9)), Cover: d.anyCover()}
		if d.below(3) == 0 {
			t[at].Feature, t[at].Left, t[at].Right, t[at].Miss = pickOf(d, 64, d.below(65)), pickOf(d, 255, d.below(256)), d.below(256), true
		}
		return
	}
	left, right := (*free)[0], (*free)[1]
	*free = (*free)[2:]
	below := pickOf(d, 0, splits-1, d.below(splits))
	d.plant(t, left, below, features, free)
	d.plant(t, right, splits-1-below, features, free)
	t[at] = api.Node{Feature: d.below(features), Cut: ratio.Of(d.below(9)), Left: left, Right: right, Miss: d.below(2) == 0, Cover: ratio.Add(t[left].Cover, t[right].Cover)}
}

// anyTree is one that may be, its nodes in any places.
func (d *dice) anyTree(splits, features int) []api.Node {
	var free []int
	for i := range 2 * splits {
		free = slices.Insert(free, d.below(i+1), i+1)
	}
	t := make([]api.Node, 2*splits+1)
	d.plant(t, 0, splits, features, &free)
	for i := range t {
		t[i].Cover = d.mixed(t[i].Cover)
	}
	return t
}

// anyModel is one that may be.
func (d *dice) anyModel(trees, splits int) api.Model {
	m := api.Model{Features: pickOf(d, 0, 1, 2, 64, d.below(65))}
	for range d.below(trees + 1) {
		most := splits
		if m.Features == 0 {
			most = 0
		}
		m.Trees = append(m.Trees, d.anyTree(d.below(most+1), m.Features))
	}
	return m
}

// harm changes something in a model, which may be or not be after that.
func (d *dice) harm(m *api.Model) {
	if len(m.Trees) == 0 || d.below(40) == 0 {
		m.Features = pickOf(d, 0, 1, 64, 65, -1, d.below(65))
		return
	}
	i := d.below(len(m.Trees))
	if len(m.Trees[i]) == 0 {
		return
	}
	n := &m.Trees[i][d.below(len(m.Trees[i]))]
	place := d.below(len(m.Trees[i]))
	switch d.below(16) {
	case 0:
		n.Feature = pickOf(d, 0, 1, m.Features-1, m.Features, 63, 64, 65, -1)
	case 1, 2, 3:
		n.Left = place
	case 4, 5, 6:
		n.Right = place
	case 7:
		n.Left = pickOf(d, 0, 1, len(m.Trees[i])-1, len(m.Trees[i]), 255, 256, -1)
	case 8:
		n.Right = pickOf(d, 0, 1, len(m.Trees[i])-1, len(m.Trees[i]), 255, 256, -1)
	case 9:
		n.Cover = pickOf(d, ratio.Zero(), number("-1"), api.Rat{}, soiled(number("-1/2")), soiled(ratio.Zero()), api.Rat{Num: api.Int{Abs: api.Nat{5}}})
	case 10, 11:
		n.Cover = pickOf(d, ratio.Add(n.Cover, number("1/1000000007")), ratio.Neg(n.Cover), soiled(n.Cover))
	case 12:
		n.Leaf = !n.Leaf
	case 13:
		m.Trees[i] = append(slices.Clone(m.Trees[i]), leaf("1"))
	case 14:
		m.Trees[i] = slices.Clone(m.Trees[i][:d.below(len(m.Trees[i])+1)])
	case 15:
		other := &m.Trees[i][place]
		n.Left, other.Left = other.Left, n.Left
	}
}

func toBig(a api.Rat) *big.Rat {
	part := func(l api.Nat) *big.Int {
		out := new(big.Int)
		for _, x := range slices.Backward(l) {
			out.Lsh(out, 32)
			out.Or(out, big.NewInt(int64(x&(1<<32-1))))
		}
		return out
	}
	num, den := part(a.Num.Abs), part(a.Den)
	if den.Sign() == 0 {
		return new(big.Rat)
	}
	if a.Num.Neg {
		num.Neg(num)
	}
	return new(big.Rat).SetFrac(num, den)
}

func outside(n, least, most int) bool {
	return n < least || n > most
}

func fitsBySight(m api.Model) bool {
	if outside(m.Features, 0, 64) || len(m.Trees) > 64 {
		return false
	}
	for _, t := range m.Trees {
		if outside(len(t), 1, 255) {
			return false
		}
		for _, n := range t {
			if outside(n.Feature, 0, 64) || outside(n.Left, 0, 255) || outside(n.Right, 0, 255) {
				return false
			}
		}
	}
	return true
}

// childTimes is how often a node stands as a child.
func childTimes(t []api.Node, k int) int {
	out := 0
	for _, n := range t {
		for _, child := range []int{n.Left, n.Right} {
			if !n.Leaf && child == k {
				out++
			}
		}
	}
	return out
}

// parent is the first node that has a node as a child, or -1.
func parent(t []api.Node, k int) int {
	return slices.IndexFunc(t, func(n api.Node) bool { return !n.Leaf && (n.Left == k || n.Right == k) })
}

// climbs tells whether the way from a node upwards comes to node 0, in so many steps at most.
func climbs(t []api.Node, k, most int) bool {
	if k <= 0 || most == 0 {
		return k == 0
	}
	return climbs(t, parent(t, k), most-1)
}

// breaks tells whether a node breaks a step of the rules: the second rule has two.
func breaks(m api.Model, i, k, step int) bool {
	t := m.Trees[i]
	n := t[k]
	switch step {
	case 1:
		return !n.Leaf && (n.Feature >= m.Features || outside(n.Left, 1, len(t)-1) || outside(n.Right, 1, len(t)-1))
	case 2:
		return k > 0 && childTimes(t, k) != 1
	case 3:
		return !climbs(t, k, len(t))
	case 4:
		return toBig(n.Cover).Sign() < 1
	}
	return !n.Leaf && toBig(n.Cover).Cmp(new(big.Rat).Add(toBig(t[n.Left].Cover), toBig(t[n.Right].Cover))) != 0
}

// faultBySight is the first fault of a model, by means that the program has not.
func faultBySight(m api.Model) api.Fault {
	if !fitsBySight(m) {
		return api.Fault{Err: api.ErrArg}
	}
	for _, rule := range []struct {
		err   api.Errno
		steps []int
	}{{api.ErrRange, []int{1}}, {api.ErrTree, []int{2, 3}}, {api.ErrCover, []int{4}}, {api.ErrParts, []int{5}}} {
		for i, t := range m.Trees {
			for _, step := range rule.steps {
				for k := range t {
					if breaks(m, i, k, step) {
						return api.Fault{Err: rule.err, Tree: i, Node: k}
					}
				}
			}
		}
	}
	return api.Fault{}
}

// wantFault asks all calls whether a model may be, and what they tell of one that may not.
func wantFault(t *testing.T, m api.Model, want api.Fault) {
	t.Helper()
	may := want == api.Fault{}
	if f := valid.Check(m); f != want || valid.Ok(m) != may {
		t.Fatalf("%v of %v, not %v", f, m, want)
	}
	if u := valid.Used(m); !may && u != nil || may && len(u) != m.Features {
		t.Fatalf("%v: used %v", m, u)
	}
	for _, tree := range m.Trees {
		wantTree(t, tree, m.Features, faultBySight(one(m.Features, tree...)) == api.Fault{})
	}
}

func wantTree(t *testing.T, tree []api.Node, features int, may bool) {
	t.Helper()
	depth, leaves := valid.Depth(tree, features), valid.Leaves(tree, features)
	if valid.Tree(tree, features) != may || (depth >= 0) != may || depth < -1 || (len(leaves) > 0) != may {
		t.Fatalf("%v for %d: not %v; depth %d, leaves %v", tree, features, may, depth, leaves)
	}
}

func wantErr(t *testing.T, m api.Model, why api.Errno, tree, node int) {
	t.Helper()
	wantFault(t, m, api.Fault{Err: why, Tree: tree, Node: node})
}

// leavesBySight are the leaves below a node, from the left.
func leavesBySight(t []api.Node, at int) []int {
	if t[at].Leaf {
		return []int{at}
	}
	return slices.Concat(leavesBySight(t, t[at].Left), leavesBySight(t, t[at].Right))
}

// depthBySight is the longest way from a leaf upwards.
func depthBySight(t []api.Node) int {
	out := 0
	for k := range t {
		steps := 0
		for at := k; at != 0; steps++ {
			at = parent(t, at)
		}
		if t[k].Leaf {
			out = max(out, steps)
		}
	}
	return out
}

// chain is a tree of so many splits, one below the other: each on the left of the one above, or each on the right.
func chain(splits int, left bool) []api.Node {
	var t []api.Node
	for i := range splits {
		a, b := 2*i+1, 2*i+2
		if left {
			a, b = b, a
		}
		t = append(t, split(i%64, a, b, strconv.Itoa(splits-i+1)), leaf("1"))
	}
	return append(t, leaf("1"))
}

// full is a tree of all leaves in one depth.
func full(depth int) []api.Node {
	var t []api.Node
	for i := range 1<<depth - 1 {
		t = append(t, split(i%64, 2*i+1, 2*i+2, "1"))
	}
	for range 1 << depth {
		t = append(t, leaf("1/3"))
	}
	for i := 1<<depth - 2; i >= 0; i-- {
		t[i].Cover = ratio.Add(t[2*i+1].Cover, t[2*i+2].Cover)
	}
	return t
}
