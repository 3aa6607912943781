package nat

import (
	"dendron/api"
)

// Below so many limbs the plain way is faster than that by halves.
const halvesFrom = 40

// Mul is a product.
func Mul(a, b api.Nat) api.Nat {
	return product(plain(a), plain(b))
}

func product(a, b api.Nat) api.Nat {
	if len(a) < len(b) {
		a, b = b, a
	}
	if len(b) == 0 {
		return nil
	}
	out := make(api.Nat, len(a)+len(b))
	switch {
	case len(b) < halvesFrom:
		multiplyRows(out, a, b)
	case len(a) >= 2*len(b):
		multiplyPieces(out, a, b)
	default:
		multiplyHalves(out, a, b)
	}
	return cut(out)
}

// multiplyRows adds up a times each limb of b.
func multiplyRows(out, a, b api.Nat) {
	for i, x := range b {
		var carry uint64
		row := out[i:][:len(a)]
		for j, y := range a {
			carry += x*y + row[j]
			row[j] = carry & limbMask
			carry >>= limbBits
		}
		out[i+len(a)] = carry
	}
}

// multiplyPieces cuts a into pieces as long as b, since halves serve only numbers of like length.
func multiplyPieces(out, a, b api.Nat) {
	for at := 0; at < len(a); at += len(b) {
		end := min(at+len(b), len(a))
		addInto(out[at:], product(cut(a[at:end]), b))
	}
}

// multiplyHalves takes three products of halves where rows would take four (Karatsuba); b is more than half as long as a.
func multiplyHalves(out, a, b api.Nat) {
	half := (len(a) + 1) / 2
	a0, a1 := cut(a[:half]), a[half:]
	b0, b1 := cut(b[:half]), b[half:]
	low, high := product(a0, b0), product(a1, b1)
	middle := product(sum(a0, a1), sum(b0, b1))
	takeFrom(middle, low)
	takeFrom(middle, high)
	addInto(out, low)
	addInto(out[half:], cut(middle))
	addInto(out[2*half:], high)
}
