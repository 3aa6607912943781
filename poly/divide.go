package poly

import (
	"slices"

	"dendron/api"
	"dendron/ratio"
)

// DivMod is a quotient, and the rest, of a lower degree than the divisor.
func DivMod(a, b []api.Rat) ([]api.Rat, []api.Rat, api.Errno) {
	a, b = Clean(a), Clean(b)
	if len(b) == 0 {
		return nil, nil, api.ErrZero
	}
	q, r := divide(a, b)
	return q, r, api.OK
}

// Monic is a polynomial divided by its last coefficient; 0 of 0.
func Monic(p []api.Rat) []api.Rat {
	p = trimmed(p)
	if len(p) == 0 {
		return nil
	}
	by, _ := ratio.Inv(top(p))
	return Scale(p, by)
}

// Gcd is the monic polynomial of the greatest degree that divides both; 0 of both 0.
//
// Each rest is made monic: left as they come, their coefficients would grow with the square of the steps.
func Gcd(a, b []api.Rat) []api.Rat {
	a, b = Monic(a), Monic(b)
	for len(b) > 0 {
		_, r := divide(a, b)
		a, b = b, Monic(r)
	}
	return a
}

// divide is DivMod of a divisor that is not 0; what it answers has coefficients of its own or those of a.
func divide(a, b []api.Rat) ([]api.Rat, []api.Rat) {
	below := len(b) - 1
	q, rest := make([]api.Rat, max(0, len(a)-below)), slices.Clone(a)
	for k := len(q) - 1; k >= 0; k-- {
		q[k], _ = ratio.Div(rest[k+below], b[below])
		for i := range below {
			rest[k+i] = ratio.Sub(rest[k+i], ratio.Mul(q[k], b[i]))
		}
	}
	return trimmed(q), trimmed(rest[:min(len(a), below)])
}
