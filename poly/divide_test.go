package poly_test

import (
	"math/big"
	"testing"

	"dendron/api"
	"dendron/poly"
	"dendron/ratio"
)

func monic(c curve) curve {
	if len(c) == 0 {
		return nil
	}
	return c.scaled(new(big.Rat).Inv(c.top()))
}

// Promise 4.2: of a divisor 0, of a higher degree, of degree 0, and all others.
func TestDivMod(t *testing.T) {
	eachPair(t, func(a, b []api.Rat, c, d curve) {
		q, r, e := poly.DivMod(a, b)
		if len(d) == 0 {
			wantError(t, q, e, api.ErrZero)
			wantError(t, r, e, api.ErrZero)
			return
		}
		if e != api.OK {
			t.Fatal(e)
		}
		quotient, rest := c.over(d)
		want(t, "quotient", q, quotient)
		want(t, "rest", r, rest)
		if poly.Degree(r) >= poly.Degree(b) || !poly.Same(poly.Add(poly.Mul(q, b), r), a) {
			t.Fatalf("%v by %v: %v, %v", c, d, ratio.Texts(q), ratio.Texts(r))
		}
	})
}

// Promise 4.2: what was multiplied is divided without a rest.
func TestDivModOfProducts(t *testing.T) {
	d := dice(3)
	for range 60 {
		a, b := d.curve(d.below(12), 20), d.curve(d.below(12), 20)
		rest := d.curve(d.below(len(b))-1, 20)
		q, r, e := poly.DivMod(a.times(b).plus(rest).list(), b.list())
		if e != api.OK {
			t.Fatal(e)
		}
		want(t, "quotient", q, a)
		want(t, "rest", r, rest)
	}
}

// Promise 4.2.
func TestMonic(t *testing.T) {
	eachOne(t, func(p []api.Rat, c curve) { want(t, "Monic", poly.Monic(p), monic(c)) })
	want(t, "Monic", poly.Monic(make([]api.Rat, 3)), nil)
}

// Promise 4.2, of any two, held against Euclid's steps without anything made monic on the way.
func TestGcd(t *testing.T) {
	eachPair(t, func(a, b []api.Rat, c, d curve) {
		for len(d) > 0 {
			_, r := c.over(d)
			c, d = d, r
		}
		want(t, "Gcd", poly.Gcd(a, b), monic(c))
	})
}

// Promise 4.2: Gcd of 0 and 0, of 0 and another, of constants.
func TestGcdAtItsEdges(t *testing.T) {
	zero := []api.Rat{{}, ratio.Zero()}
	want(t, "Gcd", poly.Gcd(nil, nil), nil)
	want(t, "Gcd", poly.Gcd(zero, nil), nil)
	want(t, "Gcd", poly.Gcd(zero, of("2 4").list()), of("1/2 1"))
	want(t, "Gcd", poly.Gcd(of("2 4").list(), zero), of("1/2 1"))
	want(t, "Gcd", poly.Gcd(of("-7").list(), nil), of("1"))
	want(t, "Gcd", poly.Gcd(of("-7").list(), of("0 0 3").list()), of("1"))
	want(t, "Gcd", poly.Gcd(of("6").list(), of("4").list()), of("1"))
}

// Promise 4.2: of products of factors that nothing divides, the factors that both have, as often as both have them.
func TestGcdOfProducts(t *testing.T) {
	factors := []curve{of("0 1"), of("-1 1"), of("1/2 1"), of("-2 0 1"), of("1 0 1"), of("-2 0 0 1"), of("1 1 1")}
	d := dice(4)
	for range 120 {
		a, b, both := curve{d.number(9)}.cut(), of("-3/7"), of("1")
		if len(a) == 0 {
			a = of("5")
		}
		for _, f := range factors {
			n, m := d.below(3), d.below(3)
			for i := range max(n, m) {
				if i < n {
					a = a.times(f)
				}
				if i < m {
					b = b.times(f)
				}
				if i < min(n, m) {
					both = both.times(f)
				}
			}
		}
		want(t, "Gcd", poly.Gcd(a.list(), b.list()), both)
		want(t, "Gcd", poly.Gcd(b.list(), a.list()), both)
	}
}
