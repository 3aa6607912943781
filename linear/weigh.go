package linear

import (
	"slices"

	"dendron/api"
	"dendron/poly"
	"dendron/ratio"
	"dendron/weigh"
)

// Weigh is a polynomial's coefficients, each times what a coalition of as many counts of n.
func Weigh(p []api.Rat, n int) (api.Rat, api.Errno) {
	return weighed(p, n, func() []api.Rat {
		counts, _ := weigh.New().All(n)
		return counts
	})
}

// ByArea is the same, as an area: of the sum of all x^k (1 - x)^(n - 1 - k) times the coefficients, from 0 to 1.
func ByArea(p []api.Rat, n int) (api.Rat, api.Errno) {
	return weighed(p, n, func() []api.Rat { return areas(n) })
}

// weighed is the sum of a polynomial's coefficients, each times what its power counts. Those 0 from above are none of it.
func weighed(p []api.Rat, n int, counts func() []api.Rat) (api.Rat, api.Errno) {
	switch {
	case n < 1 || n > api.MaxFeatures:
		return api.Rat{}, api.ErrRange
	case poly.Degree(p) >= n:
		return api.Rat{}, api.ErrLong
	}
	p = poly.Clean(p)
	count := counts()
	for k, x := range p {
		p[k] = ratio.Mul(x, count[k])
	}
	return ratio.Sum(p), api.OK
}

// areas are, for each k below n, the area from 0 to 1 under x^k (1 - x)^(n - 1 - k). That under a sum is the sum of those under its parts: so coefficients, which may be long, need not be multiplied out.
func areas(n int) []api.Rat {
	out := make([]api.Rat, n)
	curve := append(slices.Repeat([]api.Rat{ratio.Zero()}, n-1), ratio.One())
	less := []api.Rat{ratio.One(), ratio.Of(-1)}
	for k := range slices.Backward(out) {
		out[k] = poly.Between(curve, ratio.Zero(), ratio.One())
		// One x is divided out: the lowest coefficient is 0, until k is, when nothing follows.
		curve = poly.Mul(curve[1:], less)
	}
	return out
}
