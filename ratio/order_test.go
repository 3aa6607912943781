package ratio_test

import (
	"math/big"
	"testing"

	"dendron/api"
	"dendron/ratio"
)

// Promise 3.3: whole numbers about a number.
func TestFloorCeilRound(t *testing.T) {
	eachOne(t, func(a api.Rat, x *big.Rat) { wantWhole(t, a, x) })
	d := dice(5)
	for range 3000 {
		x := d.small(1 + d.below(40))
		wantWhole(t, forms(x)[d.below(4)], x)
	}
}

// Halves, and numbers that lie just beside them, on both sides of 0.
func TestRoundOfHalves(t *testing.T) {
	tests := []struct {
		n, d int
		want int64
	}{
		{1, 2, 0}, {3, 2, 2}, {5, 2, 2}, {7, 2, 4}, {9, 2, 4}, {-1, 2, 0}, {-3, 2, -2}, {-5, 2, -2}, {-7, 2, -4}, {-9, 2, -4},
		{499, 1000, 0}, {501, 1000, 1}, {1499, 1000, 1}, {1501, 1000, 2}, {-499, 1000, 0}, {-501, 1000, -1}, {-1499, 1000, -1}, {-1501, 1000, -2},
		{0, 5, 0}, {4, 2, 2}, {-4, 2, -2},
	}
	for _, c := range tests {
		x := big.NewRat(int64(c.n), int64(c.d))
		eachForm(t, x, func(a api.Rat) { wantInt(t, "Round", ratio.Round(a), big.NewInt(c.want)) })
	}
	d := dice(6)
	for range 300 {
		n := new(big.Rat).SetInt(d.number(3).Num())
		for _, gap := range bigs("1/2", "-1/2", "1/18446744073709551616", "36893488147419103233/73786976294838206464") {
			x := new(big.Rat).Add(n, gap)
			wantWhole(t, ofBig(x), x)
		}
	}
}

func wantWhole(t *testing.T, a api.Rat, x *big.Rat) {
	t.Helper()
	floor := new(big.Int).Div(x.Num(), x.Denom())
	next := new(big.Int).Add(floor, big.NewInt(1))
	ceil, round := next, next
	down := new(big.Rat).Sub(x, new(big.Rat).SetInt(floor))
	if down.Sign() == 0 {
		ceil = floor
	}
	if c := down.Cmp(big.NewRat(1, 2)); c < 0 || c == 0 && floor.Bit(0) == 0 {
		round = floor
	}
	wantInt(t, "Floor", ratio.Floor(a), floor)
	wantInt(t, "Ceil", ratio.Ceil(a), ceil)
	wantInt(t, "Round", ratio.Round(a), round)
}
