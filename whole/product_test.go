package whole_test

import (
	"math"
	"math/big"
	"testing"

	"dendron/api"
	"dendron/whole"
)

// Promise 2.3.
func TestGcdAndBezout(t *testing.T) {
	if g, _, _ := whole.Bezout(whole.Of(12), whole.Of(18)); !same(g, whole.Of(6)) {
		t.Errorf("12 and 18: %v", g)
	}
	eachPair(t, func(a, b api.Int, x, y *big.Int) { wantBezout(t, a, b, x, y) })
}

// Numbers with great divisors in common, and such as follow each other in Fibonacci's row, which take the most steps.
func TestBezoutSteps(t *testing.T) {
	d := dice(4)
	for range 400 {
		g := d.number(int(d.next() % 8))
		x := new(big.Int).Mul(g, d.number(int(d.next()%12)))
		y := new(big.Int).Mul(g, d.number(int(d.next()%12)))
		wantBezout(t, ofBig(x), ofBig(y), x, y)
	}
	x, y := big.NewInt(1), big.NewInt(-1)
	for range 400 {
		x, y = new(big.Int).Sub(y, x), x
		wantBezout(t, ofBig(x), ofBig(y), x, y)
		wantBezout(t, ofBig(y), ofBig(x), y, x)
	}
}

func wantBezout(t *testing.T, a, b api.Int, x, y *big.Int) {
	t.Helper()
	divisor := new(big.Int).GCD(nil, nil, new(big.Int).Abs(x), new(big.Int).Abs(y))
	want(t, "Gcd", whole.Gcd(a, b), divisor)
	g, u, v := whole.Bezout(a, b)
	want(t, "g", g, divisor)
	if !whole.Right(u) || !whole.Right(v) {
		t.Fatalf("Bezout(%s, %s): %v, %v", x, y, u, v)
	}
	sum := new(big.Int).Mul(x, toBig(u))
	if sum.Add(sum, new(big.Int).Mul(y, toBig(v))).Cmp(divisor) != 0 {
		t.Fatalf("Bezout(%s, %s): %s, %s come to %s", x, y, toBig(u), toBig(v), sum)
	}
}

func wrongCounts() []int {
	return []int{-1, -2, math.MinInt, api.MaxPower + 1, math.MaxInt}
}

func TestPow(t *testing.T) {
	eachOne(t, func(a api.Int, x *big.Int) {
		for _, n := range []int{0, 1, 2, 3, 4, 5, 8, 31} {
			want(t, "Pow", must(t)(whole.Pow(a, n)), new(big.Int).Exp(x, big.NewInt(int64(n)), nil))
		}
		for _, n := range wrongCounts() {
			got, e := whole.Pow(a, n)
			wantError(t, got, e, api.ErrRange)
		}
	})
	for _, x := range edges() {
		for _, n := range []int{api.MaxPower - 1, api.MaxPower} {
			want(t, "Pow", must(t)(whole.Pow(ofBig(x), n)), new(big.Int).Exp(x, big.NewInt(int64(n)), nil))
		}
	}
}

func TestFact(t *testing.T) {
	for _, n := range []int{0, 1, 2, 3, 4, 5, 12, 13, 20, 21, 33, 34, 100, 1000, api.MaxPower - 1, api.MaxPower} {
		want(t, "Fact", must(t)(whole.Fact(n)), new(big.Int).MulRange(1, int64(n)))
	}
	for _, n := range wrongCounts() {
		got, e := whole.Fact(n)
		wantError(t, got, e, api.ErrRange)
	}
}

func TestChoose(t *testing.T) {
	for n := range 70 {
		for k := range n + 1 {
			wantChoose(t, n, k)
		}
	}
	for _, n := range []int{500, api.MaxPower - 1, api.MaxPower} {
		for _, k := range []int{0, 1, 2, 77, n/2 - 1, n / 2, n/2 + 1, n - 2, n - 1, n} {
			wantChoose(t, n, k)
		}
	}
}

func wantChoose(t *testing.T, n, k int) {
	t.Helper()
	want(t, "Choose", must(t)(whole.Choose(n, k)), new(big.Int).Binomial(int64(n), int64(k)))
}

func TestChooseTooManyOrTooFew(t *testing.T) {
	for _, n := range []int{0, 1, 5, api.MaxPower} {
		for _, k := range []int{-1, math.MinInt, n + 1, api.MaxPower + 1, math.MaxInt} {
			want(t, "Choose", must(t)(whole.Choose(n, k)), new(big.Int))
		}
	}
	for _, n := range wrongCounts() {
		for _, k := range []int{0, 1, -1, n, math.MinInt, math.MaxInt} {
			got, e := whole.Choose(n, k)
			wantError(t, got, e, api.ErrRange)
		}
	}
}
