package ratio_test

import (
	"math"
	"math/big"
	"testing"

	"dendron/api"
	"dendron/ratio"
)

// Promise 3.1.
func TestRight(t *testing.T) {
	one := api.Nat{1}
	rights := []api.Rat{
		{Den: one}, {Num: api.Int{Abs: one}, Den: one}, {Num: api.Int{Neg: true, Abs: one}, Den: api.Nat{2}},
		{Num: api.Int{Abs: api.Nat{0, 1}}, Den: api.Nat{3}}, {Num: api.Int{Abs: api.Nat{3}}, Den: api.Nat{0, 1}}, {Num: api.Int{Abs: api.Nat{}}, Den: one},
	}
	for _, a := range rights {
		if !ratio.Right(a) {
			t.Errorf("%v may be", a)
		}
	}
	wrongs := []api.Rat{
		{}, {Num: api.Int{Abs: one}}, {Num: api.Int{Neg: true}, Den: one}, {Den: api.Nat{2}}, {Den: api.Nat{0, 1}},
		{Num: api.Int{Abs: api.Nat{2}}, Den: api.Nat{2}}, {Num: api.Int{Abs: api.Nat{6}}, Den: api.Nat{4}}, {Num: api.Int{Neg: true, Abs: api.Nat{0, 1}}, Den: api.Nat{2}},
		{Num: api.Int{Abs: api.Nat{1, 0}}, Den: one}, {Num: api.Int{Abs: api.Nat{1<<32 | 1}}, Den: one},
		{Num: api.Int{Abs: one}, Den: api.Nat{1, 0}}, {Num: api.Int{Abs: one}, Den: api.Nat{1<<32 | 1}}, {Num: api.Int{Abs: one}, Den: api.Nat{0}}, {Num: api.Int{Abs: one}, Den: api.Nat{1 << 32}},
	}
	for _, a := range wrongs {
		if ratio.Right(a) {
			t.Errorf("%v may not be", a)
		}
	}
	eachOne(t, func(a api.Rat, x *big.Rat) {
		if ratio.Right(a) != same(a, ofBig(x)) {
			t.Fatalf("Right(%v): %v", a, ratio.Right(a))
		}
	})
}

func TestClean(t *testing.T) {
	eachOne(t, func(a api.Rat, x *big.Rat) { want(t, "Clean", ratio.Clean(a), x) })
}

// Make is given both parts of a number as whole ones, of all signs.
func TestMake(t *testing.T) {
	eachPair(t, func(a, b api.Rat, x, y *big.Rat) {
		num, den := a.Num, b.Num
		got, e := ratio.Make(num, den)
		if bigInt(den).Sign() == 0 {
			wantError(t, got, e, api.ErrZero)
			return
		}
		want(t, "Make", must(t)(got, e), new(big.Rat).SetFrac(bigInt(num), bigInt(den)))
	})
	for _, den := range []api.Int{{}, {Neg: true}, {Abs: api.Nat{0}}, {Neg: true, Abs: api.Nat{1 << 32, 0}}} {
		for _, num := range []api.Int{{}, {Abs: api.Nat{1}}, {Neg: true, Abs: api.Nat{1, 2, 3}}} {
			got, e := ratio.Make(num, den)
			wantError(t, got, e, api.ErrZero)
		}
	}
}

func TestSmallNumbers(t *testing.T) {
	want(t, "Zero", ratio.Zero(), new(big.Rat))
	want(t, "One", ratio.One(), big.NewRat(1, 1))
	edges := []int{0, 1, -1, 2, -2, 6, -6, 1<<32 - 1, 1 << 32, -1 << 32, math.MaxInt, math.MaxInt - 1, math.MinInt, math.MinInt + 1}
	for _, n := range edges {
		want(t, "Of", ratio.Of(n), new(big.Rat).SetInt64(int64(n)))
		want(t, "Frac", ratio.Frac(n, 0), new(big.Rat))
		for _, d := range edges {
			if d != 0 {
				want(t, "Frac", ratio.Frac(n, d), new(big.Rat).SetFrac(big.NewInt(int64(n)), big.NewInt(int64(d))))
			}
		}
	}
}

func TestInt(t *testing.T) {
	eachOne(t, func(a api.Rat, _ *big.Rat) { want(t, "Int", ratio.Int(a.Num), new(big.Rat).SetInt(bigInt(a.Num))) })
	want(t, "Int", ratio.Int(api.Int{Neg: true}), new(big.Rat))
}
