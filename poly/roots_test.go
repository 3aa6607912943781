package poly_test

import (
	"math/big"
	"testing"

	"dendron/api"
	"dendron/poly"
	"dendron/ratio"
)

func chainOf(c curve) []curve {
	if len(c) == 0 {
		return nil
	}
	out := []curve{c}
	for next := c.slope(); len(next) > 0; {
		out = append(out, next)
		_, rest := out[len(out)-2].over(next)
		next = rest.scaled(big.NewRat(-1, 1))
	}
	return out
}

func wantChain(t *testing.T, p []api.Rat, c curve) {
	t.Helper()
	got, right := poly.Chain(p), chainOf(c)
	if len(got) != len(right) {
		t.Fatalf("chain of %v: %v", c, got)
	}
	for i := range right {
		want(t, "Chain", got[i], right[i])
	}
}

// Promise 4.4: of 0, of constants, of all others.
func TestChain(t *testing.T) {
	eachOne(t, func(p []api.Rat, c curve) { wantChain(t, p, c) })
	if len(poly.Chain(nil)) != 0 || len(poly.Chain(make([]api.Rat, 3))) != 0 || len(poly.Chain(of("-3/2").list())) != 1 {
		t.Fatal("chains of 0 and of a constant")
	}
}

// Promise 4.4: of roots that come twice the chain ends in what holds them.
func TestChainOfRootsThatComeTwice(t *testing.T) {
	c := of("-1 1").times(of("-1 1")).times(of("2 1")).times(of("2 1")).times(of("2 1")).times(of("1 0 1"))
	wantChain(t, c.list(), c)
	chain := poly.Chain(c.list())
	want(t, "last of the chain", poly.Monic(chain[len(chain)-1]), of("-1 1").times(of("2 1")).times(of("2 1")))
	d := dice(10)
	for range 30 {
		c := d.curve(d.below(3), 5)
		c = c.times(c).times(d.curve(d.below(4), 5))
		wantChain(t, c.list(), c)
	}
}

// factor is something whose roots the tests know: how many lie above one number and not above another.
type factor struct {
	curve curve
	roots func(from, to *big.Rat) int
}

func above(ok bool) int {
	if ok {
		return 1
	}
	return 0
}

// atOne has one root, a number.
func atOne(text string) factor {
	x := number(text)
	return factor{curve{new(big.Rat).Neg(x), big.NewRat(1, 1)}, func(from, to *big.Rat) int {
		return above(x.Cmp(from) > 0 && x.Cmp(to) <= 0)
	}}
}

// atSquareRoots has the two square roots of a number that is no square.
func atSquareRoots(n int64) factor {
	below := func(x *big.Rat) int { // how many of the two are not above x
		if new(big.Rat).Mul(x, x).Cmp(big.NewRat(n, 1)) > 0 {
			return 1 + x.Sign()
		}
		return 1
	}
	return factor{curve{big.NewRat(-n, 1), new(big.Rat), big.NewRat(1, 1)}, func(from, to *big.Rat) int { return below(to) - below(from) }}
}

func rootless(text string) factor {
	return factor{of(text), func(from, to *big.Rat) int { return 0 }}
}

func factors() []factor {
	return []factor{atOne("0"), atOne("1"), atOne("-1"), atOne("1/2"), atOne("-7/3"), atOne("1000001/1000000"), atSquareRoots(2), atSquareRoots(3), rootless("1 0 1"), rootless("1 1 1")}
}

func ends() []*big.Rat {
	var out []*big.Rat
	for _, s := range []string{"0", "1", "-1", "1/2", "-7/3", "1000001/1000000", "1414213562/1000000000", "1414213563/1000000000", "-3/2", "2", "-100", "100", "999999/1000000"} {
		out = append(out, number(s))
	}
	return out
}

// Promise 4.4: each root once, also if it comes again, just at from (not counted) and just at to (counted).
func TestRoots(t *testing.T) {
	d := dice(11)
	for range 60 {
		var in []factor
		c := of("-3/7")
		for _, f := range factors() {
			n := max(0, d.below(7)-3)
			if n == 0 {
				continue
			}
			in = append(in, f)
			for range n {
				c = c.times(f.curve)
			}
		}
		for i, from := range ends() {
			to := ends()[d.below(len(ends()))]
			if from.Cmp(to) > 0 {
				from, to = to, from
			}
			right := 0
			for _, f := range in {
				right += f.roots(from, to)
			}
			p := oddList(c, i)
			got, e := 0, api.OK
			stays(t, func() { got, e = poly.Roots(p, odd(from, i), odd(to, i+1)) }, p)
			if e != api.OK || got != right {
				t.Fatalf("%v from %s to %s: %d with %v, not %d", c, from, to, got, e, right)
			}
		}
	}
}

func wantRoots(t *testing.T, text string, from, to string, want int) {
	t.Helper()
	n, e := poly.Roots(of(text).list(), ofBig(number(from)), ofBig(number(to)))
	if n != want || e != api.OK {
		t.Fatalf("roots of %s from %s to %s: %d with %v, not %d", text, from, to, n, e, want)
	}
}

// Promise 4.4, example 2, and the edges: an end that is a root, once, twice, three times.
func TestRootsAtTheEnds(t *testing.T) {
	wantRoots(t, "-2 0 1", "0", "2", 1)
	wantRoots(t, "-2 0 1", "-2", "2", 2)
	wantRoots(t, "-2 0 1", "3/2", "2", 0)
	for _, x := range []string{"0 1", "0 0 1", "0 0 0 -1", "0 0 0 0 5"} {
		wantRoots(t, x, "0", "1", 0)
		wantRoots(t, x, "-1", "0", 1)
		wantRoots(t, x, "0", "0", 0)
		wantRoots(t, x, "-1", "1", 1)
		wantRoots(t, x, "1", "2", 0)
		wantRoots(t, x, "-2", "-1", 0)
	}
	wantRoots(t, "0 0 1 -2 1", "0", "1", 1) // x^2 (x - 1)^2
	wantRoots(t, "0 0 1 -2 1", "-1", "1", 2)
	wantRoots(t, "0 0 1 -2 1", "0", "1/2", 0)
	wantRoots(t, "7", "-5", "5", 0)
	wantRoots(t, "-1/2", "3", "3", 0)
}

// Promise 4.4: many roots, all of them between the ends or not.
func TestRootsOfManyFactors(t *testing.T) {
	c := of("1")
	for i := range 25 {
		c = c.times(curve{big.NewRat(int64(-i), 1), big.NewRat(1, 1)})
	}
	for i := range 25 {
		n, e := poly.Roots(c.list(), ratio.Of(i-1), ratio.Of(2*i))
		if e != api.OK || n != min(2*i, 24)-i+1 {
			t.Fatal(i, n, e)
		}
	}
}

// Promise 4.4: wrong inputs. That p is 0 is told ahead of the ends.
func TestRootsWrong(t *testing.T) {
	eachOne(t, func(p []api.Rat, c curve) {
		for _, from := range ends() {
			for _, to := range ends() {
				n, e := poly.Roots(p, odd(from, 1), ofBig(to))
				want := api.OK
				switch {
				case len(c) == 0:
					want = api.ErrZero
				case from.Cmp(to) > 0:
					want = api.ErrRange
				}
				if e != want || e != api.OK && n != 0 || e == api.OK && (n < 0 || n >= len(c)) {
					t.Fatalf("%v from %s to %s: %d with %v", c, from, to, n, e)
				}
			}
		}
	})
}
