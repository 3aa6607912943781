package expect

import (
	"slices"

	"dendron/api"
	"dendron/ratio"
	"dendron/route"
)

// view is a tree that may be, as a row goes through it; made once, it is asked for many sets.
type view struct {
	nodes  []api.Node
	onward []int     // of each split the child to whose side the row's entry goes
	shares []api.Rat // of each node but 0 which share of its parent's cover it has
}

// look is the view of a tree that may be for as many features as the row has entries.
func look(t []api.Node, row []api.Cell) view {
	v := view{nodes: t, onward: make([]int, len(t)), shares: make([]api.Rat, len(t))}
	for i, n := range t {
		if n.Leaf {
			continue
		}
		v.onward[i] = n.Right
		if route.Left(n, row[n.Feature]) {
			v.onward[i] = n.Left
		}
		v.shares[n.Left] = share(t[n.Left].Cover, n.Cover)
		v.shares[n.Right] = share(t[n.Right].Cover, n.Cover)
	}
	return v
}

// said is what the tree says below node 0, where a set is known; it may be memory of the tree's.
func (v view) said(set uint64) api.Rat {
	below := make([]api.Rat, len(v.nodes))
	for _, i := range slices.Backward(v.counted(set)) {
		n := v.nodes[i]
		switch {
		case n.Leaf:
			below[i] = n.Value
		case in(set, n.Feature):
			below[i] = below[v.onward[i]]
		default:
			below[i] = ratio.Add(v.part(below, n.Left), v.part(below, n.Right))
		}
	}
	return below[0]
}

// part is what a child gives to the mean of both.
func (v view) part(below []api.Rat, child int) api.Rat {
	return ratio.Mul(v.shares[child], below[child])
}

// counted are the nodes that count where a set is known, each behind its parent.
func (v view) counted(set uint64) []int {
	out := []int{0}
	for k := 0; k < len(out); k++ {
		n := v.nodes[out[k]]
		switch {
		case n.Leaf:
		case in(set, n.Feature):
			out = append(out, v.onward[out[k]])
		default:
			out = append(out, n.Left, n.Right)
		}
	}
	return out
}

// table is what the tree says for each of so many sets.
//
// Features that it does not ask for change nothing: most trees ask for few, and the sets of these are the lesser numbers, so they stand there already.
func (v view) table(sets int) []api.Rat {
	asked := v.asked()
	out := make([]api.Rat, sets)
	for set := range out {
		own := set & int(asked)
		if own == set {
			out[set] = v.said(uint64(set))
		} else {
			out[set] = out[own]
		}
	}
	return out
}

// asked is the set of the features for which splits ask.
func (v view) asked() uint64 {
	var out uint64
	for _, n := range v.nodes {
		if !n.Leaf {
			out |= 1 << n.Feature
		}
	}
	return out
}

// sums are of each node of a tree the sum over the leaves below it of value times cover.
func sums(t []api.Node) []api.Rat {
	out := make([]api.Rat, len(t))
	for _, i := range slices.Backward(downwards(t)) {
		n := t[i]
		if n.Leaf {
			out[i] = ratio.Mul(n.Value, n.Cover)
		} else {
			out[i] = ratio.Add(out[n.Left], out[n.Right])
		}
	}
	return out
}

// downwards are all nodes of a tree that may be, each behind its parent.
func downwards(t []api.Node) []int {
	return view{nodes: t}.counted(0)
}

// share is a number divided by a cover, which is above 0 wherever a tree may be.
func share(a, cover api.Rat) api.Rat {
	out, _ := ratio.Div(a, cover)
	return out
}

// in tells whether a feature is in a set; what is no feature is in none.
func in(set uint64, feature int) bool {
	return 0 <= feature && feature < 64 && set>>feature&1 == 1
}
