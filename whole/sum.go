package whole

import (
	"dendron/api"
	"dendron/nat"
)

// Add is a sum.
func Add(a, b api.Int) api.Int {
	switch {
	case a.Neg == b.Neg:
		return signed(a.Neg, nat.Add(a.Abs, b.Abs))
	case nat.Cmp(a.Abs, b.Abs) < 0:
		return signed(b.Neg, less(b.Abs, a.Abs))
	}
	return signed(a.Neg, less(a.Abs, b.Abs))
}

// Sub is a difference.
func Sub(a, b api.Int) api.Int {
	return Add(a, api.Int{Neg: !b.Neg, Abs: b.Abs})
}

// Sum is the sum of numbers.
//
// It is taken by halves: one after the other, a great number ahead of many small ones would be copied with each of them.
func Sum(l []api.Int) api.Int {
	switch len(l) {
	case 0:
		return api.Int{}
	case 1:
		return Clean(l[0])
	}
	half := len(l) / 2
	return Add(Sum(l[:half]), Sum(l[half:]))
}

// less is a less b, which is not greater.
func less(a, b api.Nat) api.Nat {
	out, _ := nat.Sub(a, b)
	return out
}
