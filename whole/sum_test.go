package whole_test

import (
	"math/big"
	"slices"
	"testing"

	"dendron/api"
	"dendron/whole"
)

// Promise 2.2.
func TestAddSubMul(t *testing.T) {
	eachPair(t, func(a, b api.Int, x, y *big.Int) {
		want(t, "Add", whole.Add(a, b), new(big.Int).Add(x, y))
		want(t, "Sub", whole.Sub(a, b), new(big.Int).Sub(x, y))
		want(t, "Mul", whole.Mul(a, b), new(big.Int).Mul(x, y))
	})
}

func TestSum(t *testing.T) {
	want(t, "Sum", whole.Sum(nil), new(big.Int))
	want(t, "Sum", whole.Sum([]api.Int{}), new(big.Int))
	eachOne(t, func(a api.Int, x *big.Int) {
		want(t, "Sum", whole.Sum([]api.Int{a}), x)
		want(t, "Sum", whole.Sum([]api.Int{a, a, a}), new(big.Int).Mul(x, big.NewInt(3)))
		want(t, "Sum", whole.Sum([]api.Int{a, whole.Of(1), whole.Neg(a), whole.Of(-1)}), new(big.Int))
	})
}

// All lengths: none of a list is left out, none counted twice, wherever it is cut.
func TestSumLengths(t *testing.T) {
	d := dice(2)
	var list []api.Int
	sum := new(big.Int)
	for range 70 {
		x := d.number(int(d.next() % 6))
		all := forms(x)
		list = append(list, all[d.next()%uint64(len(all))])
		sum.Add(sum, x)
		keep := slices.Clone(list)
		want(t, "Sum", whole.Sum(list), sum)
		if !slices.EqualFunc(keep, list, same) {
			t.Fatal("the list has changed")
		}
	}
}

// Sum looks at no number behind the list's end.
func TestSumLooksAtTheListAlone(t *testing.T) {
	list := []api.Int{whole.Of(1), whole.Of(-3), whole.Of(100)}
	want(t, "Sum", whole.Sum(list[:2]), big.NewInt(-2))
	want(t, "Sum", whole.Sum(list[1:1]), new(big.Int))
}

func TestSumOfAGreatNumberAndManySmall(t *testing.T) {
	const many = 100000
	great := new(big.Int).Lsh(big.NewInt(-1), 1<<20)
	list := []api.Int{ofBig(great)}
	for range many {
		list = append(list, whole.Of(1))
	}
	want(t, "Sum", whole.Sum(list), new(big.Int).Add(great, big.NewInt(many)))
}

func TestDivMod(t *testing.T) {
	tests := []struct{ a, b, q, r int }{
		{-7, 2, -4, 1}, {7, 2, 3, 1}, {7, -2, -4, -1}, {-7, -2, 3, -1},
		{6, 2, 3, 0}, {-6, 2, -3, 0}, {6, -2, -3, 0}, {-6, -2, 3, 0},
		{1, 5, 0, 1}, {-1, 5, -1, 4}, {1, -5, -1, -4}, {-1, -5, 0, -1},
		{0, 5, 0, 0}, {0, -5, 0, 0}, {5, 1, 5, 0}, {5, -1, -5, 0}, {-5, 1, -5, 0}, {-5, -1, 5, 0},
	}
	for _, c := range tests {
		q, r, e := whole.DivMod(whole.Of(c.a), whole.Of(c.b))
		if e != api.OK || !same(q, whole.Of(c.q)) || !same(r, whole.Of(c.r)) {
			t.Errorf("DivMod(%d, %d): %v, %v, %v", c.a, c.b, q, r, e)
		}
	}
	eachPair(t, func(a, b api.Int, x, y *big.Int) { wantDivMod(t, a, b, x, y) })
}

// Dividends that lie about multiples of the divisor: there the rest is 0, the least or the greatest.
func TestDivModAboutMultiples(t *testing.T) {
	d := dice(3)
	for range 2000 {
		y := d.number(1 + int(d.next()%4))
		x := new(big.Int).Mul(y, d.number(int(d.next()%5)))
		x.Add(x, big.NewInt(int64(d.next()%3)-1))
		wantDivMod(t, ofBig(x), ofBig(y), x, y)
	}
}

func wantDivMod(t *testing.T, a, b api.Int, x, y *big.Int) {
	t.Helper()
	q, r, e := whole.DivMod(a, b)
	if y.Sign() == 0 {
		wantError(t, q, e, api.ErrZero)
		wantError(t, r, e, api.ErrZero)
		return
	}
	if e != api.OK {
		t.Fatalf("DivMod(%s, %s): %v", x, y, e)
	}
	quotient, rest := new(big.Int).QuoRem(x, y, new(big.Int))
	if rest.Sign()*y.Sign() < 0 {
		quotient.Sub(quotient, big.NewInt(1))
		rest.Add(rest, y)
	}
	want(t, "quotient", q, quotient)
	want(t, "rest", r, rest)
}
