package nat

import (
	"math/bits"

	"dendron/api"
)

// Gcd is the greatest number that divides both (0, if both are 0).
func Gcd(a, b api.Nat) api.Nat {
	a, b = Clean(a), Clean(b)
	if Cmp(a, b) < 0 {
		a, b = b, a
	}
	for len(b) > 2 {
		a, b = nearer(a, b)
	}
	if len(b) == 0 {
		return a
	}
	if len(a) > 2 {
		_, r := divide(a, b)
		a, b = b, r
	}
	x, _ := To(a)
	y, _ := To(b)
	return Of(smallGcd(x, y))
}

// Lcm is the least number that both divide; 0, if one of them is 0.
func Lcm(a, b api.Nat) api.Nat {
	a, b = plain(a), plain(b)
	if len(a) == 0 || len(b) == 0 {
		return nil
	}
	q, _ := divide(a, Gcd(a, b))
	return product(q, b)
}

// smallGcd drops bits and takes the lesser from the greater; x is above 0.
func smallGcd(x, y uint64) uint64 {
	if y == 0 {
		return x
	}
	twos := bits.TrailingZeros64(x | y)
	x >>= bits.TrailingZeros64(x)
	for y != 0 {
		y >>= bits.TrailingZeros64(y)
		x, y = min(x, y), max(x, y)-min(x, y)
	}
	return x << twos
}

// steps are some divisions of two numbers by one another in one: the two are u0 and v0, and u1 and v1, times what they were, one of them taken from the other one.
type steps struct {
	u0, u1, v0, v1 uint64
	even           bool
}

// nearer goes on from two numbers (the first not the lesser, both of three limbs or more) to two lesser ones that the same numbers divide, and again the first is not the lesser.
func nearer(a, b api.Nat) (api.Nat, api.Nat) {
	zeros := bits.LeadingZeros32(uint32(a[len(a)-1]))
	s := sureSteps(head(a, len(a), zeros), head(b, len(a), zeros))
	switch {
	case s.v0 == 0:
		_, r := divide(a, b)
		return b, r
	case s.even:
		return lessTimes(s.u0, a, s.v0, b), lessTimes(s.v1, b, s.u1, a)
	}
	return lessTimes(s.v0, b, s.u0, a), lessTimes(s.u1, a, s.v1, b)
}

// head is 64 bits of a number: those at and below the highest limb but for some zeros of n limbs.
func head(a api.Nat, n, zeros int) uint64 {
	return (limb(a, n-1)<<limbBits|limb(a, n-2))<<zeros | limb(a, n-3)>>(limbBits-zeros)
}

// sureSteps are the divisions of two numbers that their heads alone tell (Lehmer's, with Collins' condition for an end): none, if v0 is 0. What it answers is below 2^32, since a is below 2^64 and not less than the square of v1.
func sureSteps(a, b uint64) steps {
	s := steps{u1: 1}
	u2, v2 := uint64(0), uint64(1)
	for b >= v2 && a-b >= s.v1+v2 {
		q := a / b
		a, b = b, a-q*b
		s.u0, s.u1, u2 = s.u1, u2, s.u1+q*u2
		s.v0, s.v1, v2 = s.v1, v2, s.v1+q*v2
		s.even = !s.even
	}
	return s
}

// lessTimes is u times a less v times b, which is not below 0 nor above a and b; u and v are below 2^32.
func lessTimes(u uint64, a api.Nat, v uint64, b api.Nat) api.Nat {
	out := make(api.Nat, min(len(a), len(b)))
	var up, down, borrow uint64
	for i := range out {
		up += u * a[i]
		down += v * b[i]
		d := up&limbMask - down&limbMask - borrow
		out[i] = d & limbMask
		borrow = d >> 63
		up >>= limbBits
		down >>= limbBits
	}
	return cut(out)
}
