package poly_test

import (
	"math/big"
	"testing"

	"dendron/api"
	"dendron/poly"
	"dendron/ratio"
)

// Promise 4.3.
func TestEval(t *testing.T) {
	eachOne(t, func(p []api.Rat, c curve) {
		eachNumber(t, func(a api.Rat, x *big.Rat) { wantNumber(t, "Eval", poly.Eval(p, a), c.value(x)) })
	})
}

// Promise 4.3: each number of coefficients, as they are put together by twos.
func TestEvalOfEachLength(t *testing.T) {
	d := dice(5)
	for degree := range 40 {
		c, x := d.curve(degree, 9), d.number(9)
		wantNumber(t, "Eval", poly.Eval(c.list(), ofBig(x)), c.value(x))
	}
}

// Promise 4.3: a long one is worked out in time.
func TestEvalOfALongOne(t *testing.T) {
	d := dice(6)
	c, x := d.curve(1500, 1000), number("-7/3")
	wantNumber(t, "Eval", poly.Eval(c.list(), ofBig(x)), c.value(x))
}

// Promise 4.3: p of q, power by power.
func TestCompose(t *testing.T) {
	eachPair(t, func(a, b []api.Rat, c, d curve) {
		if len(c)*len(d) > 30 {
			return
		}
		var right curve
		power := of("1")
		for _, x := range c {
			right = right.plus(power.scaled(x))
			power = power.times(d)
		}
		want(t, "Compose", poly.Compose(a, b), right)
	})
}

// Promise 4.3: of 0, of a constant, of x itself.
func TestComposeAtItsEdges(t *testing.T) {
	eachOne(t, func(p []api.Rat, c curve) {
		want(t, "Compose", poly.Compose(nil, p), nil)
		want(t, "Compose", poly.Compose(p, of("0 1").list()), c)
		want(t, "Compose", poly.Compose(of("0 1").list(), p), c)
		want(t, "Compose", poly.Compose(p, nil), curve{c.at(0)}.cut())
		want(t, "Compose", poly.Compose(p, of("-3/2").list()), curve{c.value(number("-3/2"))}.cut())
		want(t, "Compose", poly.Compose(of("4").list(), p), of("4"))
	})
}

// Promise 4.3.
func TestDeriveAndArea(t *testing.T) {
	eachOne(t, func(p []api.Rat, c curve) {
		want(t, "Derive", poly.Derive(p), c.slope())
		area := poly.Area(p)
		want(t, "Derive of Area", poly.Derive(area), c)
		wantNumber(t, "Area at 0", poly.Eval(area, ratio.Zero()), new(big.Rat))
		var right curve
		for i, x := range c {
			right = append(right, new(big.Rat).Mul(x, big.NewRat(1, int64(i+1))))
		}
		want(t, "Area", area, right.shifted(1))
	})
	want(t, "Derive", poly.Derive(of("9").list()), nil)
	want(t, "Area", poly.Area(make([]api.Rat, 4)), nil)
}

// Promise 4.3, also from the greater to the lesser, where the sign is the other one.
func TestBetween(t *testing.T) {
	eachOne(t, func(p []api.Rat, c curve) {
		for _, x := range numbers() {
			for i, y := range numbers() {
				right := new(big.Rat)
				for n, k := range c {
					power := of("0 1")
					for range n {
						power = power.times(of("0 1"))
					}
					part := new(big.Rat).Sub(power.value(y), power.value(x))
					right.Add(right, part.Mul(part, new(big.Rat).Mul(k, big.NewRat(1, int64(n+1)))))
				}
				wantNumber(t, "Between", poly.Between(p, odd(x, i), odd(y, i+1)), right)
			}
		}
	})
}
