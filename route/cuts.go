package route

import (
	"slices"

	"dendron/api"
	"dendron/ratio"
	"dendron/valid"
)

// Cuts are the numbers at which splits ask for a feature, rising, each once.
func Cuts(m api.Model, feature int) ([]api.Rat, api.Errno) {
	if !valid.Ok(m) {
		return nil, api.ErrArg
	}
	if feature < 0 || feature >= m.Features {
		return nil, api.ErrRange
	}
	var out []api.Rat
	for _, t := range m.Trees {
		for _, n := range t {
			if !n.Leaf && n.Feature == feature {
				out = laid(out, n.Cut)
			}
		}
	}
	return out, api.OK
}

// Steps are numbers of which each stands for all between two cuts of a feature: one below the first cut, then each cut.
func Steps(m api.Model, feature int) ([]api.Rat, api.Errno) {
	cuts, e := Cuts(m, feature)
	if e != api.OK {
		return nil, e
	}
	if len(cuts) == 0 {
		return []api.Rat{ratio.Zero()}, api.OK
	}
	out := make([]api.Rat, len(cuts)+1)
	out[0] = ratio.Sub(cuts[0], ratio.One())
	copy(out[1:], cuts)
	return out, api.OK
}

// laid is a rising list with a number more, at its place; the list alone, if it has the number.
func laid(l []api.Rat, x api.Rat) []api.Rat {
	at, has := slices.BinarySearchFunc(l, x, ratio.Cmp)
	if has {
		return l
	}
	l = append(l, api.Rat{})
	copy(l[at+1:], l[at:])
	l[at] = ratio.Clean(x)
	return l
}
