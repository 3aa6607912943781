package nat

import (
	"dendron/api"
)

// Add is a sum.
func Add(a, b api.Nat) api.Nat {
	return sum(plain(a), plain(b))
}

// Sub is a difference that is not below 0.
func Sub(a, b api.Nat) (api.Nat, api.Errno) {
	if Cmp(a, b) < 0 {
		return nil, api.ErrNeg
	}
	out := Clean(a)
	takeFrom(out, plain(b))
	return cut(out), api.OK
}

func sum(a, b api.Nat) api.Nat {
	if len(a) < len(b) {
		a, b = b, a
	}
	out := make(api.Nat, len(a)+1)
	copy(out, a)
	addInto(out, b)
	return cut(out)
}

// addInto adds b to a in a's own limbs, which must have room for the sum.
func addInto(a, b api.Nat) {
	carry := addLimbs(a, b)
	for i := len(b); carry > 0; i++ {
		carry += a[i]
		a[i] = carry & limbMask
		carry >>= limbBits
	}
}

// addLimbs adds b to as many limbs of a, and answers what is carried out of them.
func addLimbs(a, b api.Nat) uint64 {
	var carry uint64
	for i, x := range b {
		carry += a[i] + x
		a[i] = carry & limbMask
		carry >>= limbBits
	}
	return carry
}

// takeFrom takes b from a, which is not less, in a's own limbs.
func takeFrom(a, b api.Nat) {
	var borrow uint64
	for i, x := range b {
		// A difference below 0 wraps round, and its highest bit tells so.
		d := a[i] - x - borrow
		a[i] = d & limbMask
		borrow = d >> 63
	}
	for i := len(b); borrow > 0; i++ {
		d := a[i] - borrow
		a[i] = d & limbMask
		borrow = d >> 63
	}
}
