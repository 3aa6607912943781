package poly

import (
	"slices"

	"dendron/api"
	"dendron/ratio"
)

// Eval is a polynomial at a number.
func Eval(p []api.Rat, x api.Rat) api.Rat {
	p = Clean(p)
	if len(p) == 0 {
		return ratio.Zero()
	}
	return value(p, x, ratio.Add, ratio.Mul)
}

// Compose is a polynomial of another one.
func Compose(p, q []api.Rat) []api.Rat {
	var constants [][]api.Rat
	for _, c := range trimmed(p) {
		constants = append(constants, Clean([]api.Rat{c}))
	}
	if len(constants) == 0 {
		return nil
	}
	return value(constants, Clean(q), Add, Mul)
}

// value is what coefficients, at least one, are at x, be they numbers or polynomials.
//
// Neighbours are put together, those made of them again with x squared, down to one: one after the other, a number that grows would be gone through with each coefficient.
func value[T any](l []T, x T, add, times func(a, b T) T) T {
	for {
		var halved []T
		for pair := range slices.Chunk(l, 2) {
			if len(pair) == 2 {
				halved = append(halved, add(pair[0], times(pair[1], x)))
			} else {
				halved = append(halved, pair[0])
			}
		}
		if len(halved) == 1 {
			return halved[0]
		}
		l, x = halved, times(x, x)
	}
}

// Derive is a polynomial's slope.
func Derive(p []api.Rat) []api.Rat {
	return made(max(0, len(p)-1), func(i int) api.Rat {
		return ratio.Mul(p[i+1], ratio.Of(i+1))
	})
}

// Area is the polynomial whose slope is p, 0 at 0.
func Area(p []api.Rat) []api.Rat {
	return made(len(p)+1, func(i int) api.Rat {
		if i == 0 {
			return ratio.Zero()
		}
		return ratio.Mul(p[i-1], ratio.Frac(1, i))
	})
}

// Between is the area under a polynomial from one number to another.
func Between(p []api.Rat, from, to api.Rat) api.Rat {
	area := Area(p)
	return ratio.Sub(Eval(area, to), Eval(area, from))
}
