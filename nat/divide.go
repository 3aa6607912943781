package nat

import (
	"math/bits"

	"dendron/api"
)

// DivMod is a quotient, rounded down, and the rest.
func DivMod(a, b api.Nat) (api.Nat, api.Nat, api.Errno) {
	if Zero(b) {
		return nil, nil, api.ErrZero
	}
	q, r := divide(plain(a), plain(b))
	return q, r, api.OK
}

func divide(a, b api.Nat) (api.Nat, api.Nat) {
	switch {
	case Cmp(a, b) < 0:
		return nil, Clean(a)
	case len(a) <= 2:
		x, _ := To(a)
		y, _ := To(b)
		return Of(x / y), Of(x % y)
	case len(b) == 1:
		q := Clean(a)
		rest := divideByLimb(q, b[0])
		return cut(q), Of(rest)
	}
	return divideLong(a, b)
}

// divideByLimb leaves the quotient in a's own limbs and answers the rest.
func divideByLimb(a api.Nat, by uint64) uint64 {
	var rest uint64
	for i := len(a) - 1; i >= 0; i-- {
		x := rest<<limbBits | a[i]
		a[i], rest = x/by, x%by
	}
	return rest
}

// divideLong divides as by hand (Knuth's algorithm D); b has two limbs or more, and a is not less.
func divideLong(a, b api.Nat) (api.Nat, api.Nat) {
	// A divisor whose highest bit is set keeps each guess at most 2 too great.
	shift := bits.LeadingZeros32(uint32(b[len(b)-1]))
	by := shiftUp(b, shift)
	rest := make(api.Nat, len(a)+1)
	copy(rest, shiftUp(a, shift))
	q := make(api.Nat, len(a)-len(b)+1)
	for i := len(q) - 1; i >= 0; i-- {
		q[i] = divideStep(rest[i:i+len(by)+1], by)
	}
	return cut(q), shiftDown(cut(rest[:len(by)]), shift)
}

// divideStep finds one limb of a quotient, and takes so many times the divisor from what is left: the highest limb of that is used up, and stays as it was since nobody reads it again.
func divideStep(rest, by api.Nat) uint64 {
	n := len(by)
	q := guessLimb(rest, by)
	var carry uint64
	row := rest[:n]
	for i, x := range by {
		carry += q * x
		d := row[i] - carry&limbMask
		row[i] = d & limbMask
		carry = carry>>limbBits + d>>63
	}
	if carry <= rest[n] {
		return q
	}
	// What is left is below 0 and wraps round; with the divisor given back it is right, but for the carry, which is dropped.
	addLimbs(row, by)
	return q - 1
}

// guessLimb is a limb of a quotient by the highest limbs alone: right, or 1 too great.
func guessLimb(rest, by api.Nat) uint64 {
	n := len(by)
	high, next := by[n-1], by[n-2]
	top := rest[n]<<limbBits | rest[n-1]
	q, r := top/high, top%high
	for q > limbMask || q*next > r<<limbBits|rest[n-2] {
		q--
		r += high
		if r > limbMask {
			break
		}
	}
	return q
}
