package whole

import (
	"dendron/api"
	"dendron/nat"
)

// Gcd is the greatest number that divides both (0, if both are 0).
func Gcd(a, b api.Int) api.Int {
	return signed(false, nat.Gcd(a.Abs, b.Abs))
}

// Bezout is the greatest number g that divides both, and x, y such that a x + b y = g.
func Bezout(a, b api.Int) (g, x, y api.Int) {
	g, x = euclid(a.Abs, b.Abs)
	x = Mul(x, Of(Sign(a)))
	// Nothing is left for b to bring, if b is 0: y is then the 0 that DivMod answers beside its error.
	y, _, _ = DivMod(Sub(g, Mul(a, x)), b)
	return g, x, y
}

// euclid is the greatest number that divides two natural ones, and an x such that it is x times the first, but for a multiple of the second.
func euclid(a, b api.Nat) (g, x api.Int) {
	a, b = nat.Clean(a), nat.Clean(b)
	// The amounts of such an x for a, and for b: their signs take turns, so that the amounts add up.
	xa, xb, neg := nat.Of(1), nat.Of(0), false
	for !nat.Zero(b) {
		q, r, _ := nat.DivMod(a, b)
		a, b = b, r
		xa, xb = xb, nat.Add(xa, nat.Mul(q, xb))
		neg = !neg
	}
	return signed(false, a), signed(neg, xa)
}
