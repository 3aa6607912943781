package depend

import (
	"dendron/api"
	"dendron/ratio"
	"dendron/route"
)

// crowd is what comes to a node, whatever the entry of the one feature is.
type crowd interface {
	// part is what of it goes to the left, and to the right, of a split that asks for another feature.
	part(t []api.Node, n api.Node) (crowd, crowd)
	// weight is how much it is; all that comes to node 0 is 1.
	weight() api.Rat
}

// share is a crowd by covers.
type share api.Rat

func (s share) part(t []api.Node, n api.Node) (crowd, crowd) {
	return s.below(t[n.Left], n), s.below(t[n.Right], n)
}

// below is what goes to a split's child; covers are above 0 wherever a tree may be.
func (s share) below(child, n api.Node) share {
	x, _ := ratio.Div(child.Cover, n.Cover)
	return share(ratio.Mul(s.weight(), x))
}

func (s share) weight() api.Rat {
	return api.Rat(s)
}

// some is a crowd of rows, out of so many.
type some struct {
	rows [][]api.Cell
	of   int
}

func (s some) part(_ []api.Node, n api.Node) (crowd, crowd) {
	left, right := some{of: s.of}, some{of: s.of}
	for _, row := range s.rows {
		if route.Left(n, row[n.Feature]) {
			left.rows = append(left.rows, row)
		} else {
			right.rows = append(right.rows, row)
		}
	}
	return left, right
}

func (s some) weight() api.Rat {
	return ratio.Frac(len(s.rows), s.of)
}
