package ratio_test

import (
	"math"
	"math/big"
	"slices"
	"testing"

	"dendron/api"
	"dendron/ratio"
)

// Promise 3.2.
func TestAddSubMulDiv(t *testing.T) {
	eachPair(t, func(a, b api.Rat, x, y *big.Rat) {
		want(t, "Add", ratio.Add(a, b), new(big.Rat).Add(x, y))
		want(t, "Sub", ratio.Sub(a, b), new(big.Rat).Sub(x, y))
		want(t, "Mul", ratio.Mul(a, b), new(big.Rat).Mul(x, y))
		got, e := ratio.Div(a, b)
		if y.Sign() == 0 {
			wantError(t, got, e, api.ErrZero)
			return
		}
		want(t, "Div", must(t)(got, e), new(big.Rat).Quo(x, y))
	})
}

// Dens that are one, and such as divide each other: what comes out has others.
func TestAddDens(t *testing.T) {
	d := dice(2)
	for range 3000 {
		x, y := d.small(1+d.below(30)), d.small(1+d.below(30))
		a, b := forms(x)[d.below(4)], forms(y)[d.below(4)]
		want(t, "Add", ratio.Add(a, b), new(big.Rat).Add(x, y))
		want(t, "Sub", ratio.Sub(a, b), new(big.Rat).Sub(x, y))
		want(t, "Mul", ratio.Mul(a, b), new(big.Rat).Mul(x, y))
	}
}

func TestNegAbsInvSign(t *testing.T) {
	eachOne(t, func(a api.Rat, x *big.Rat) {
		want(t, "Neg", ratio.Neg(a), new(big.Rat).Neg(x))
		want(t, "Abs", ratio.Abs(a), new(big.Rat).Abs(x))
		if ratio.Sign(a) != x.Sign() {
			t.Fatalf("Sign(%v): %d", a, ratio.Sign(a))
		}
		got, e := ratio.Inv(a)
		if x.Sign() == 0 {
			wantError(t, got, e, api.ErrZero)
			return
		}
		want(t, "Inv", must(t)(got, e), new(big.Rat).Inv(x))
	})
}

func TestCmpSameMinMax(t *testing.T) {
	eachPair(t, func(a, b api.Rat, x, y *big.Rat) {
		less, more := x, y
		if x.Cmp(y) > 0 {
			less, more = y, x
		}
		if ratio.Cmp(a, b) != x.Cmp(y) || ratio.Same(a, b) != (x.Cmp(y) == 0) {
			t.Fatalf("Cmp(%v, %v): %d, Same %v", a, b, ratio.Cmp(a, b), ratio.Same(a, b))
		}
		want(t, "Min", ratio.Min(a, b), less)
		want(t, "Max", ratio.Max(a, b), more)
	})
}

// Numbers that lie as near to each other as their parts allow.
func TestCmpOfNeighbours(t *testing.T) {
	d := dice(3)
	for range 500 {
		x := d.number(1 + d.below(6))
		gap := new(big.Rat).Inv(new(big.Rat).SetInt(d.amount(1+d.below(9))).Add(big.NewRat(1, 1), new(big.Rat)))
		y := new(big.Rat).Add(x, gap)
		if ratio.Cmp(ofBig(x), ofBig(y)) != -1 || ratio.Cmp(ofBig(y), ofBig(x)) != 1 || ratio.Same(ofBig(x), ofBig(y)) {
			t.Fatalf("%s and %s", x, y)
		}
	}
}

func TestSumAndMean(t *testing.T) {
	for _, none := range [][]api.Rat{nil, {}} {
		want(t, "Sum", ratio.Sum(none), new(big.Rat))
		got, e := ratio.Mean(none)
		wantError(t, got, e, api.ErrEmpty)
	}
	eachOne(t, func(a api.Rat, x *big.Rat) {
		want(t, "Sum", ratio.Sum([]api.Rat{a}), x)
		want(t, "Sum", ratio.Sum([]api.Rat{a, a, a}), new(big.Rat).Mul(x, big.NewRat(3, 1)))
		want(t, "Mean", must(t)(ratio.Mean([]api.Rat{a})), x)
		want(t, "Mean", must(t)(ratio.Mean([]api.Rat{a, {}})), new(big.Rat).Mul(x, big.NewRat(1, 2)))
		want(t, "Mean", must(t)(ratio.Mean([]api.Rat{a, ratio.One(), ratio.Neg(a), ratio.Of(-1)})), new(big.Rat))
	})
}

// All lengths: none of a list is left out, none counted twice, wherever it is cut; what stands behind its end is not looked at.
func TestSumLengths(t *testing.T) {
	d := dice(4)
	var list []api.Rat
	sum := new(big.Rat)
	for i := range 60 {
		x := d.small(40)
		all := forms(x)
		list = append(list, all[d.below(len(all))])
		sum.Add(sum, x)
		keep := slices.Clone(list)
		longer := append(slices.Clone(list), ratio.One())
		want(t, "Sum", ratio.Sum(longer[:i+1]), sum)
		want(t, "Mean", must(t)(ratio.Mean(longer[:i+1])), new(big.Rat).Mul(sum, big.NewRat(1, int64(i+1))))
		if !slices.EqualFunc(keep, list, same) {
			t.Fatal("the list has changed")
		}
	}
}

// Promise 3.3: powers.
func TestPow(t *testing.T) {
	eachOne(t, func(a api.Rat, x *big.Rat) {
		for _, n := range []int{0, 1, 2, 3, 4, 7, 20} {
			want(t, "Pow", must(t)(ratio.Pow(a, n)), powerOf(x, n))
			got, e := ratio.Pow(a, -n)
			if x.Sign() == 0 && n > 0 {
				wantError(t, got, e, api.ErrZero)
				continue
			}
			want(t, "Pow", must(t)(got, e), powerOf(x, -n))
		}
		for _, n := range []int{4097, 4098, -4097, -4098, math.MaxInt, math.MinInt, math.MinInt + 1} {
			got, e := ratio.Pow(a, n)
			wantError(t, got, e, api.ErrRange)
		}
	})
}

func TestPowAtItsEdges(t *testing.T) {
	for _, x := range bigs("0", "1", "-1", "2", "-2/3", "7/10", "-4294967297/4294967296") {
		eachForm(t, x, func(a api.Rat) {
			for _, n := range []int{4095, 4096} {
				want(t, "Pow", must(t)(ratio.Pow(a, n)), powerOf(x, n))
				got, e := ratio.Pow(a, -n)
				if x.Sign() == 0 {
					wantError(t, got, e, api.ErrZero)
					continue
				}
				want(t, "Pow", must(t)(got, e), powerOf(x, -n))
			}
		})
	}
}

func powerOf(x *big.Rat, n int) *big.Rat {
	if n < 0 {
		x, n = new(big.Rat).Inv(x), -n
	}
	by := big.NewInt(int64(n))
	return new(big.Rat).SetFrac(new(big.Int).Exp(x.Num(), by, nil), new(big.Int).Exp(x.Denom(), by, nil))
}
