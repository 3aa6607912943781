package expect

import (
	"cmp"
	"slices"

	"dendron/api"
	"dendron/ratio"
	"dendron/valid"
)

// Legs are a tree's leaves, from the left, with what leads to them: of each feature on the way the share of the covers, and whether a row goes that way at all its splits.
func Legs(t []api.Node, row []api.Cell) ([]api.Leg, api.Errno) {
	if !valid.Tree(t, len(row)) {
		return nil, api.ErrArg
	}
	parts := look(t, row).parts()
	leaves := valid.Leaves(t, len(row))
	out := make([]api.Leg, len(leaves))
	for k, i := range leaves {
		out[k] = api.Leg{Node: i, Value: ratio.Clean(t[i].Value), Parts: own(parts[i])}
	}
	return out, api.OK
}

// Reach is which share of the covers comes to a leaf, where the features of a set are known: 0, if one of these goes another way.
func Reach(l api.Leg, set uint64) api.Rat {
	var shares []api.Rat
	for _, p := range l.Parts {
		switch {
		case !in(set, p.Feature):
			shares = append(shares, p.Share)
		case !p.Ok:
			return ratio.Zero()
		}
	}
	return product(shares)
}

// parts are of each node the parts that lead to it; their numbers may stand in several lists.
func (v view) parts() [][]api.Part {
	out := make([][]api.Part, len(v.nodes))
	for _, i := range downwards(v.nodes) {
		n := v.nodes[i]
		if n.Leaf {
			continue
		}
		for _, child := range [2]int{n.Left, n.Right} {
			out[child] = laid(out[i], api.Part{Feature: n.Feature, Share: v.shares[child], Ok: v.onward[i] == child})
		}
	}
	return out
}

// laid is a new list of parts, rising by feature, with one more: at its place, or taken together with that of its feature.
func laid(l []api.Part, p api.Part) []api.Part {
	at, has := slices.BinarySearchFunc(l, p, func(a, b api.Part) int { return cmp.Compare(a.Feature, b.Feature) })
	if has {
		out := slices.Clone(l)
		out[at].Share = ratio.Mul(out[at].Share, p.Share)
		out[at].Ok = out[at].Ok && p.Ok
		return out
	}
	out := make([]api.Part, len(l)+1)
	copy(out, l[:at])
	out[at] = p
	copy(out[at+1:], l[at:])
	return out
}

// own is the same list with numbers of its own.
func own(l []api.Part) []api.Part {
	out := slices.Clone(l)
	for i, p := range out {
		out[i].Share = ratio.Clean(p.Share)
	}
	return out
}

// product is the product of numbers.
//
// It is taken by halves: one after the other, all that there is would be gone through with each of them.
func product(l []api.Rat) api.Rat {
	switch len(l) {
	case 0:
		return ratio.One()
	case 1:
		return ratio.Clean(l[0])
	}
	half := len(l) / 2
	return ratio.Mul(product(l[:half]), product(l[half:]))
}
