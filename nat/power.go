package nat

import (
	"math/bits"

	"dendron/api"
)

// Pow is a power.
func Pow(a api.Nat, n int) (api.Nat, api.Errno) {
	if n < 0 || n > api.MaxPower {
		return nil, api.ErrRange
	}
	return power(plain(a), n), api.OK
}

func power(a api.Nat, n int) api.Nat {
	out := Of(1)
	for i := bits.Len(uint(n)) - 1; i >= 0; i-- {
		out = product(out, out)
		if n>>i&1 == 1 {
			out = product(out, a)
		}
	}
	return out
}

// PowMod is the rest of a power divided by a number.
func PowMod(a, n, m api.Nat) (api.Nat, api.Errno) {
	if Zero(m) {
		return nil, api.ErrZero
	}
	m = plain(m)
	_, base := divide(plain(a), m)
	_, out := divide(Of(1), m)
	for i := Len(n) - 1; i >= 0; i-- {
		_, out = divide(product(out, out), m)
		if Bit(n, i) == 1 {
			_, out = divide(product(out, base), m)
		}
	}
	return out, api.OK
}

// Sqrt is the root, rounded down.
//
// Newton's way, each step on twice as many of the highest bits as the one ahead: with so many bits taken as have given root, root - 1 and root + 1 lie on both sides of the true root of these.
func Sqrt(a api.Nat) api.Nat {
	a = plain(a)
	if len(a) == 0 {
		return nil
	}
	most := (Len(a) - 1) / 2
	root, done := Of(1), 0
	for i := bits.Len(uint(most)) - 1; i >= 0; i-- {
		next := most >> i
		q, _ := divide(shiftDown(a, 2*most-done-next+1), root)
		root = sum(shiftUp(root, next-done-1), q)
		done = next
	}
	if Cmp(product(root, root), a) > 0 {
		takeFrom(root, Of(1))
	}
	return cut(root)
}
