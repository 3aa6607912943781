package weigh_test

import (
	"math"
	"math/big"
	"slices"

	"dendron/api"
	"dendron/ratio"
	"dendron/weigh"
	"dendron/whole"
)

// most is how many players there may be.
const most = 64

// wrong are numbers that no count of players may be.
func wrong() []int {
	return []int{-1, -2, -64, -65, math.MinInt, math.MinInt + 1, most + 1, most + 2, 1 << 32, 1<<32 + 1, math.MaxInt, math.MaxInt - 1}
}

func product(n int) *big.Int {
	return new(big.Int).MulRange(1, int64(n))
}

func choose(n, k int) *big.Int {
	return new(big.Int).Binomial(int64(n), int64(k))
}

// parts is a! b! / n!.
func parts(a, b, n int) *big.Rat {
	return new(big.Rat).SetFrac(new(big.Int).Mul(product(a), product(b)), product(n))
}

func toBig(a api.Rat) *big.Rat {
	out, ok := new(big.Rat).SetString(ratio.Print(a))
	if !ok {
		panic("no number: " + ratio.Print(a))
	}
	return out
}

// isBig asks for the one form of a number, limb by limb.
func isBig(a api.Rat, want *big.Rat) bool {
	b, e := ratio.Parse(want.RatString())
	return e == api.OK && sameLimbs(a, b)
}

func isWhole(a api.Int, want *big.Int) bool {
	b, e := whole.Parse(want.String())
	return e == api.OK && a.Neg == b.Neg && slices.Equal(a.Abs, b.Abs)
}

func sameLimbs(a, b api.Rat) bool {
	return a.Num.Neg == b.Num.Neg && slices.Equal(a.Num.Abs, b.Num.Abs) && slices.Equal(a.Den, b.Den)
}

// empty tells whether a number is api.Rat{}, as it stands beside an error.
func empty(a api.Rat) bool {
	return !a.Num.Neg && a.Num.Abs == nil && a.Den == nil
}

// tables are those that there may be: made by New, asked already or not, and one that no call made.
func tables() []*weigh.Table {
	asked := weigh.New()
	asked.Weight(1, 3)
	return []*weigh.Table{weigh.New(), asked, {}}
}
