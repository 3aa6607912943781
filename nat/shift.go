package nat

import (
	"math/bits"

	"dendron/api"
)

// Shl is a number times a power of two.
func Shl(a api.Nat, n int) (api.Nat, api.Errno) {
	if n < 0 || n > api.MaxShift {
		return nil, api.ErrRange
	}
	return shiftUp(plain(a), n), api.OK
}

// Shr is a number divided by a power of two, rounded down.
func Shr(a api.Nat, n int) (api.Nat, api.Errno) {
	if n < 0 {
		return nil, api.ErrRange
	}
	return shiftDown(plain(a), n), api.OK
}

// Len is how many bits a number has.
func Len(a api.Nat) int {
	n := size(a)
	if n == 0 {
		return 0
	}
	return (n-1)*limbBits + bits.Len64(a[n-1]&limbMask)
}

// Bit is a bit of a number.
func Bit(a api.Nat, i int) int {
	if i < 0 {
		return 0
	}
	return int(limb(a, i/limbBits) >> (i % limbBits) & 1)
}

func shiftUp(a api.Nat, n int) api.Nat {
	if len(a) == 0 {
		return nil
	}
	whole, part := n/limbBits, n%limbBits
	out := make(api.Nat, len(a)+whole+1)
	var carry uint64
	for i, x := range a {
		carry |= x << part
		out[whole+i] = carry & limbMask
		carry >>= limbBits
	}
	out[whole+len(a)] = carry
	return cut(out)
}

func shiftDown(a api.Nat, n int) api.Nat {
	whole, part := n/limbBits, n%limbBits
	if whole >= len(a) {
		return nil
	}
	out := make(api.Nat, len(a)-whole)
	for i := range out {
		out[i] = (limb(a, whole+i+1)<<limbBits | a[whole+i]) >> part & limbMask
	}
	return cut(out)
}
