package valid

import (
	"dendron/api"
	"dendron/ratio"
)

// rules are what must hold of each tree, for so many features, in their order; each tells its first fault in one tree, and leans on those ahead of it.
func rules() []func(t []api.Node, features int) api.Fault {
	return []func(t []api.Node, features int) api.Fault{namesPlaces, isTree, hasCovers, addsUp}
}

func namesPlaces(t []api.Node, features int) api.Fault {
	for i, n := range t {
		if !n.Leaf && (n.Feature >= features || !isChild(n.Left, t) || !isChild(n.Right, t)) {
			return api.Fault{Err: api.ErrRange, Node: i}
		}
	}
	return api.Fault{}
}

// isChild tells whether a place may be a child's: node 0 is the root, and nobody's child.
func isChild(i int, t []api.Node) bool {
	return 1 <= i && i < len(t)
}

func isTree(t []api.Node, _ int) api.Fault {
	if f := notOnce(parents(t), 1); f != (api.Fault{}) {
		return f
	}
	times := make([]int, len(t))
	for _, i := range reached(t) {
		times[i]++
	}
	return notOnce(times, 0)
}

// parents counts how often each node stands as a child.
func parents(t []api.Node) []int {
	out := make([]int, len(t))
	for _, n := range t {
		if !n.Leaf {
			out[n.Left]++
			out[n.Right]++
		}
	}
	return out
}

// notOnce is the fault at the first node, from a place on, that was not counted just once.
func notOnce(times []int, from int) api.Fault {
	for i, n := range times {
		if i >= from && n != 1 {
			return api.Fault{Err: api.ErrTree, Node: i}
		}
	}
	return api.Fault{}
}

// reached are the nodes that can be reached from node 0: each behind its parent, and all below its left child ahead of the right one.
//
// It ends only because no node stands as a child twice, and node 0 not at all.
func reached(t []api.Node) []int {
	var out []int
	wait := []int{0}
	for len(wait) > 0 {
		i := wait[len(wait)-1]
		wait = wait[:len(wait)-1]
		out = append(out, i)
		if n := t[i]; !n.Leaf {
			wait = append(wait, n.Right, n.Left)
		}
	}
	return out
}

func hasCovers(t []api.Node, _ int) api.Fault {
	for i, n := range t {
		if ratio.Sign(n.Cover) <= 0 {
			return api.Fault{Err: api.ErrCover, Node: i}
		}
	}
	return api.Fault{}
}

func addsUp(t []api.Node, _ int) api.Fault {
	for i, n := range t {
		if !n.Leaf && !ratio.Same(n.Cover, ratio.Add(t[n.Left].Cover, t[n.Right].Cover)) {
			return api.Fault{Err: api.ErrParts, Node: i}
		}
	}
	return api.Fault{}
}
