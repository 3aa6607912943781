package poly

import (
	"slices"

	"dendron/api"
	"dendron/ratio"
)

// Through is the polynomial of a degree below the number of points that goes through them.
//
// It is put together from behind, of Newton's slopes: the first, and what there is times x less the first of x.
func Through(x, y []api.Rat) ([]api.Rat, api.Errno) {
	if len(x) != len(y) {
		return nil, api.ErrLength
	}
	slopes, e := newton(x, y)
	if e != api.OK {
		return nil, e
	}
	var out []api.Rat
	for i := len(slopes) - 1; i >= 0; i-- {
		line := []api.Rat{ratio.Neg(x[i]), ratio.One()}
		out = Add(Mul(out, line), slopes[i:i+1])
	}
	return out, api.OK
}

// newton are the slopes of the points, of the slopes, and so on: of each the first. Each two of x come to be told apart on the way, so the first two that are one end it.
func newton(x, y []api.Rat) ([]api.Rat, api.Errno) {
	out := slices.Clone(y)
	for apart := 1; apart < len(x); apart++ {
		for i := len(x) - 1; i >= apart; i-- {
			slope, e := ratio.Div(ratio.Sub(out[i], out[i-1]), ratio.Sub(x[i], x[i-apart]))
			if e != api.OK {
				return nil, e
			}
			out[i] = slope
		}
	}
	return out, api.OK
}
