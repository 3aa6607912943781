package pathshap

import (
	"slices"

	"dendron/api"
	"dendron/ratio"
	"dendron/route"
)

// game is what becomes known, and what is known ahead.
type game struct {
	row   []api.Cell
	fixed int  // the feature that is no player; -1: all are
	on    bool // whether that one is known, always; else never
}

// stop is a node that a walk comes to, with what leads to it.
type stop struct {
	node    int
	up      int     // the stop of its parent
	feature int     // that its parent asks for
	path    *Path   // the features that are asked on the way and players; its parent's is the last
	weight  api.Rat // what the feature that is no player leaves of it
}

// walk goes through a tree, down and back.
//
// To all leaves below a side of a split, but those where the same feature was asked again, its part is one and the same: they are added up ahead of taking that part out, which is then done once a side, and not once a leaf.
type walk struct {
	game
	tree  []api.Node
	stops []stop
	adds  [][]api.Rat // of each feature what it adds, in parts
}

// down lays all stops, each behind its parent's.
func (w *walk) down() {
	wait := []stop{{feature: -1, path: New(), weight: ratio.One()}}
	for len(wait) > 0 {
		last := len(wait) - 1
		w.stops = append(w.stops, wait[last])
		wait = wait[:last]
		for _, s := range w.sides(len(w.stops) - 1) {
			if ratio.Sign(s.weight) > 0 {
				wait = append(wait, s)
			}
		}
	}
}

// sides are both sides of a stop's split; of a leaf's stop there is none of any weight.
func (w *walk) sides(at int) [2]stop {
	n := w.tree[w.stops[at].node]
	if n.Leaf {
		return [2]stop{}
	}
	left := route.Left(n, w.row[n.Feature])
	return [2]stop{w.side(at, n.Left, left), w.side(at, n.Right, !left)}
}

// side is the stop at a child of a stop's split, to which the row goes or not.
func (w *walk) side(at, child int, goes bool) stop {
	above := w.stops[at]
	n := w.tree[above.node]
	share, _ := ratio.Div(w.tree[child].Cover, n.Cover)
	out := stop{node: child, up: at, feature: n.Feature, path: above.path, weight: above.weight}
	switch {
	case n.Feature != w.fixed:
		out.path = above.path.beyond(n.Feature, share, goes)
	case !w.on:
		out.weight = ratio.Mul(above.weight, share)
	case !goes:
		out.weight = ratio.Zero()
	}
	return out
}

// back adds up the leaves below all stops, and takes in what these add.
func (w *walk) back() {
	below := make([]line, len(w.stops)) // of all leaves below a stop
	again := make([]line, len(w.stops)) // less those where its feature was asked again
	for at, s := range slices.Backward(w.stops) {
		if n := w.tree[s.node]; n.Leaf {
			below[at] = s.path.line.times(ratio.Mul(s.weight, n.Value))
		}
		if at == 0 {
			return
		}
		below[s.up] = below[s.up].plus(below[at])
		if s.feature == w.fixed {
			continue
		}
		w.enter(s, below[at].plus(again[at]))
		if up := w.ahead(s); up > 0 {
			again[up] = again[up].plus(below[at].times(ratio.Of(-1)))
		}
	}
}

// enter takes in what the feature of a stop adds at leaves to which that stop's part stays.
func (w *walk) enter(s stop, leaves line) {
	if len(leaves.coefs) == 0 {
		return
	}
	part := s.path.parts[len(s.path.parts)-1]
	more := ratio.Neg(part.Share)
	if part.Ok {
		more = ratio.Add(ratio.One(), more)
	}
	w.adds[s.feature] = append(w.adds[s.feature], ratio.Mul(more, leaves.without(part).sum()))
}

// ahead is the last stop above one at which its feature was asked for; 0: there is none.
func (w *walk) ahead(s stop) int {
	up := s.up
	for up > 0 && w.stops[up].feature != s.feature {
		up = w.stops[up].up
	}
	return up
}
