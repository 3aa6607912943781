package linear

import (
	"slices"

	"dendron/api"
	"dendron/poly"
	"dendron/ratio"
)

// legs are those of a tree, from the left, and sums of their polynomials.
//
// Neighbours have most of their parts in common. The polynomials of all legs in a row that have a part in common, each times its leaf's value, may be added up ahead of dividing by its factor and weighing, so that this is done once, and not once a leg.
//
// To be added up, all must be weighed as of so many parts as the longest leg has. For each part that another one lacks it is multiplied by 1 + x: x^k and x^(k + 1) together count as much of one more as x^k does.
type legs struct {
	list  []api.Leg
	parts int         // how many the longest has
	scale api.Rat     // what sums are multiplied by, so that they are whole
	sums  [][]api.Rat // of the legs ahead of each place, and of all
}

// laid are the legs of a tree, and their sums.
func laid(list []api.Leg) legs {
	out := legs{list: list, scale: ratio.One(), sums: make([][]api.Rat, len(list)+1)}
	for _, l := range list {
		out.parts = max(out.parts, len(l.Parts))
		_, den := apart(ratio.Mul(height(l), out.scale))
		out.scale = ratio.Mul(out.scale, den)
	}
	for i, l := range list {
		out.sums[i+1] = poly.Add(out.sums[i], out.polynomial(l))
	}
	return out
}

// polynomial is that of a leg, as of so many parts as the longest has, times its leaf's value and the scale.
func (s legs) polynomial(l api.Leg) []api.Rat {
	lacking, _ := poly.Pow([]api.Rat{ratio.One(), ratio.One()}, s.parts-len(l.Parts))
	return poly.Scale(poly.Mul(wholes(l.Parts), lacking), ratio.Mul(height(l), s.scale))
}

// height is a leaf's value, divided by what wholes of its parts is to be divided by.
func height(l api.Leg) api.Rat {
	out, _ := ratio.Div(l.Value, over(l.Parts))
	return out
}

// each hands over what each of so many features adds at all legs together.
func (s legs) each(features int, add func(feature int, x api.Rat)) {
	for feature := range features {
		sum := ratio.Zero()
		for from := 0; from < len(s.list); {
			to := s.end(from, feature)
			sum = ratio.Add(sum, s.adds(from, to, feature))
			from = to
		}
		x, _ := ratio.Div(sum, s.scale)
		add(feature, x)
	}
}

// end is the place behind all legs in a row that have the same part of a feature, or none.
func (s legs) end(from, feature int) int {
	first := s.part(from, feature)
	to := from + 1
	for to < len(s.list) && same(s.part(to, feature), first) {
		to++
	}
	return to
}

// adds is what a feature adds, times the scale, at legs in a row that have the same part of it, or none.
func (s legs) adds(from, to, feature int) api.Rat {
	p := s.part(from, feature)
	if p == nil {
		return ratio.Zero()
	}
	rest, _, _ := poly.DivMod(poly.Sub(s.sums[to], s.sums[from]), factor(*p))
	x, _ := Weigh(rest, s.parts)
	// What was divided by the Den of the share too, with the factor, is multiplied by it again.
	num, den := apart(p.Share)
	if !p.Ok {
		return ratio.Mul(x, ratio.Neg(num))
	}
	return ratio.Mul(x, ratio.Sub(den, num))
}

// part is that which a leg has of a feature, to be read only; nil: it has none.
func (s legs) part(at, feature int) *api.Part {
	parts := s.list[at].Parts
	if i := slices.IndexFunc(parts, func(p api.Part) bool { return p.Feature == feature }); i >= 0 {
		return &parts[i]
	}
	return nil
}

// same tells whether two parts of a feature are one, or both none.
func same(a, b *api.Part) bool {
	if a == nil || b == nil {
		return a == b
	}
	return a.Ok == b.Ok && ratio.Same(a.Share, b.Share)
}
