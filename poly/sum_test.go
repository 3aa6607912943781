package poly_test

import (
	"math"
	"math/big"
	"testing"

	"dendron/api"
	"dendron/poly"
	"dendron/ratio"
)

// Promise 4.1.
func TestAddSubMul(t *testing.T) {
	eachPair(t, func(a, b []api.Rat, c, d curve) {
		want(t, "Add", poly.Add(a, b), c.plus(d))
		want(t, "Sub", poly.Sub(a, b), c.minus(d))
		want(t, "Mul", poly.Mul(a, b), c.times(d))
	})
}

// Promise 4.1: coefficients that become 0 from above are left out.
func TestSumsOfALowerDegree(t *testing.T) {
	d := dice(2)
	for range 50 {
		low, high := d.curve(d.below(4), 5), d.curve(4+d.below(3), 5)
		a := low.plus(high)
		want(t, "Sub", poly.Sub(a.list(), high.list()), low)
		want(t, "Add", poly.Add(a.list(), high.scaled(big.NewRat(-1, 1)).list()), low)
		want(t, "Sub", poly.Sub(a.list(), a.list()), nil)
	}
}

// Promise 4.1.
func TestScale(t *testing.T) {
	eachOne(t, func(p []api.Rat, c curve) {
		eachNumber(t, func(by api.Rat, x *big.Rat) { want(t, "Scale", poly.Scale(p, by), c.scaled(x)) })
	})
}

// Example 1.
func TestExampleMul(t *testing.T) {
	want(t, "Mul", poly.Mul(of("1 1").list(), of("1 -1").list()), of("1 0 -1"))
}

// Promise 4.1: powers from 0 on, held against products one by one.
func TestPow(t *testing.T) {
	eachOne(t, func(p []api.Rat, c curve) {
		right := of("1")
		for n := range 6 {
			want(t, "Pow", must(t)(poly.Pow(p, n)), right)
			right = right.times(c)
		}
	})
}

// Promise 4.1: (1 + x)^64 has the binomial numbers; what is 0 stays so, and 0^0 is 1.
func TestPowAtItsEdges(t *testing.T) {
	var right curve
	for i := range 65 {
		right = append(right, new(big.Rat).SetInt(new(big.Int).Binomial(64, int64(i))))
	}
	want(t, "Pow", must(t)(poly.Pow(of("1 1").list(), 64)), right)
	want(t, "Pow", must(t)(poly.Pow(of("0 1/2").list(), 63)), of("1/9223372036854775808").shifted(63))
	want(t, "Pow", must(t)(poly.Pow(nil, 64)), nil)
	want(t, "Pow", must(t)(poly.Pow(nil, 1)), nil)
	want(t, "Pow", must(t)(poly.Pow(nil, 0)), of("1"))
	want(t, "Pow", must(t)(poly.Pow([]api.Rat{{}, ratio.Zero()}, 0)), of("1"))
}

// Promise 4.1: wrong inputs.
func TestPowOutOfRange(t *testing.T) {
	for _, n := range []int{-1, 65, -64, 66, 128, 1 << 32, math.MinInt, math.MaxInt} {
		for _, c := range samples() {
			p, e := poly.Pow(c.list(), n)
			wantError(t, p, e, api.ErrRange)
		}
	}
}
