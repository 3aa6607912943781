package whole

import (
	"dendron/api"
	"dendron/nat"
)

// Mul is a product.
func Mul(a, b api.Int) api.Int {
	return signed(a.Neg != b.Neg, nat.Mul(a.Abs, b.Abs))
}

// DivMod is a quotient, rounded down, and the rest, which is 0 or has the divisor's sign.
func DivMod(a, b api.Int) (api.Int, api.Int, api.Errno) {
	q, r, e := nat.DivMod(a.Abs, b.Abs)
	switch {
	case e != api.OK:
		return api.Int{}, api.Int{}, e
	case a.Neg == b.Neg:
		return signed(false, q), signed(b.Neg, r), api.OK
	case nat.Zero(r):
		return signed(true, q), api.Int{}, api.OK
	}
	// The quotient is between -q and the number below it: down is away from 0.
	return signed(true, nat.Add(q, nat.Of(1))), signed(b.Neg, less(b.Abs, r)), api.OK
}

// Pow is a power.
func Pow(a api.Int, n int) (api.Int, api.Errno) {
	abs, e := nat.Pow(a.Abs, n)
	if e != api.OK {
		return api.Int{}, e
	}
	return signed(a.Neg && n%2 == 1, abs), api.OK
}

// Fact is the product of all numbers from 1 to n.
func Fact(n int) (api.Int, api.Errno) {
	if n < 0 || n > api.MaxPower {
		return api.Int{}, api.ErrRange
	}
	out := nat.Of(1)
	for i := range n {
		out = nat.Mul(out, nat.Of(uint64(i+1)))
	}
	return signed(false, out), api.OK
}

// Choose is in how many ways k of n things can be taken.
func Choose(n, k int) (api.Int, api.Errno) {
	switch {
	case n < 0 || n > api.MaxPower:
		return api.Int{}, api.ErrRange
	case k < 0 || k > n:
		return api.Int{}, api.OK
	}
	out := nat.Of(1)
	for i := range min(k, n-k) {
		// No rest is left: what stands is the ways to take i of n things, and then those to take i + 1.
		out, _, _ = nat.DivMod(nat.Mul(out, nat.Of(uint64(n-i))), nat.Of(uint64(i+1)))
	}
	return signed(false, out), api.OK
}
