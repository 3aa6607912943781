// Package nat is layer 1, natural numbers of any size: see shared/doc/01-nat.md.
//
// The exported functions take any limbs; the inner ones take numbers that may be, which spares them masking each limb they read.
package nat

import (
	"cmp"

	"dendron/api"
)

const (
	limbBits = 32
	limbMask = 1<<limbBits - 1
)

// Right tells whether limbs are a number: each below 2^32, the last not 0.
func Right(a api.Nat) bool {
	for _, x := range a {
		if x > limbMask {
			return false
		}
	}
	return len(a) == 0 || a[len(a)-1] != 0
}

// Clean is the number that any limbs are: of each the lowest 32 bits.
func Clean(a api.Nat) api.Nat {
	n := size(a)
	if n == 0 {
		return nil
	}
	out := make(api.Nat, n)
	for i := range out {
		out[i] = a[i] & limbMask
	}
	return out
}

// Of is a small number.
func Of(n uint64) api.Nat {
	switch {
	case n == 0:
		return nil
	case n <= limbMask:
		return api.Nat{n}
	}
	return api.Nat{n & limbMask, n >> limbBits}
}

// To is a number as a small one; false: it is too great.
func To(a api.Nat) (uint64, bool) {
	if size(a) > 2 {
		return 0, false
	}
	return limb(a, 1)<<limbBits | limb(a, 0)&limbMask, true
}

// Zero tells whether a number is 0.
func Zero(a api.Nat) bool {
	return size(a) == 0
}

// Even tells whether a number is even.
func Even(a api.Nat) bool {
	return limb(a, 0)&1 == 0
}

// Cmp tells how two numbers stand: -1, 0, 1.
func Cmp(a, b api.Nat) int {
	n := size(a)
	if m := size(b); n != m {
		return cmp.Compare(n, m)
	}
	for i := n - 1; i >= 0; i-- {
		if x, y := a[i]&limbMask, b[i]&limbMask; x != y {
			return cmp.Compare(x, y)
		}
	}
	return 0
}

// size is how many limbs are left of any limbs without the zeros on top.
func size(a api.Nat) int {
	n := len(a)
	for n > 0 && a[n-1]&limbMask == 0 {
		n--
	}
	return n
}

// limb is a limb as it stands; 0 past the end.
func limb(a api.Nat, i int) uint64 {
	if i < len(a) {
		return a[i]
	}
	return 0
}

// plain is the number that any limbs are, to be read only: limbs that may be are not copied.
func plain(a api.Nat) api.Nat {
	if Right(a) {
		return a
	}
	return Clean(a)
}

// cut leaves out the zeros on top; it shares its argument's memory.
func cut(a api.Nat) api.Nat {
	n := size(a)
	if n == 0 {
		return nil
	}
	return a[:n]
}
