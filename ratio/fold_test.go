package ratio_test

import (
	"math/big"
	"slices"
	"testing"

	"dendron/api"
	"dendron/ratio"
	"dendron/whole"
)

func integers(l ...int) []api.Int {
	var out []api.Int
	for _, n := range l {
		out = append(out, whole.Of(n))
	}
	return out
}

// Promise 3.4: Fold, Unfold, Simplest.
func TestFold(t *testing.T) {
	tests := []struct {
		text string
		want []api.Int
	}{
		{"0", integers(0)}, {"5", integers(5)}, {"-5", integers(-5)}, {"1/2", integers(0, 2)}, {"-1/2", integers(-1, 2)},
		{"43/30", integers(1, 2, 3, 4)}, {"-43/30", integers(-2, 1, 1, 3, 4)}, {"22/7", integers(3, 7)}, {"1/1000000007", integers(0, 1000000007)},
	}
	for _, c := range tests {
		eachForm(t, number(c.text), func(a api.Rat) {
			if got := ratio.Fold(a); !slices.EqualFunc(got, c.want, sameInt) {
				t.Fatalf("Fold(%s): %v", c.text, got)
			}
		})
	}
	eachOne(t, func(a api.Rat, x *big.Rat) { wantFold(t, a, x) })
}

// wantFold holds Fold against its words: Floor, and Floor of 1 divided by what is left; Unfold brings the number back (3.6).
func wantFold(t *testing.T, a api.Rat, x *big.Rat) {
	t.Helper()
	l := ratio.Fold(a)
	back := must(t)(ratio.Unfold(l))
	want(t, "Unfold of Fold", back, x)
	left := new(big.Rat).Set(x)
	for i, q := range l {
		floor := new(big.Int).Div(left.Num(), left.Denom())
		wantInt(t, "Fold", q, floor)
		left.Sub(left, new(big.Rat).SetInt(floor))
		if (left.Sign() == 0) != (i == len(l)-1) {
			t.Fatalf("Fold(%s) has %d parts", x, len(l))
		}
		if left.Sign() != 0 {
			left.Inv(left)
		}
	}
}

func TestFoldOfFibonacci(t *testing.T) {
	x, y := big.NewInt(1), big.NewInt(1)
	for range 300 {
		x, y = y, new(big.Int).Add(x, y)
		q := new(big.Rat).SetFrac(y, x)
		wantFold(t, ofBig(q), q)
	}
}

func TestUnfold(t *testing.T) {
	tests := []struct {
		list []api.Int
		want string
	}{
		{integers(0), "0"}, {integers(-7), "-7"}, {integers(1, 2, 3, 4), "43/30"}, {integers(0, 1), "1"}, {integers(0, -2), "-1/2"}, {integers(2, -2), "3/2"},
		{integers(-1, 1), "0"}, {integers(1, -1), "0"}, {integers(5, 0, 3), "8"}, {integers(0, 0, 0, 5), "1/5"}, {integers(3, -4, 2, -5), "84/31"}, {integers(0, -3, -4), "-4/13"},
		{[]api.Int{{Neg: true}}, "0"}, {[]api.Int{{Abs: api.Nat{1<<32 | 1}}, {Neg: true, Abs: api.Nat{1<<40 | 2, 0}}}, "1/2"},
	}
	for _, c := range tests {
		want(t, "Unfold", must(t)(ratio.Unfold(c.list)), number(c.want))
	}
}

func TestUnfoldErrors(t *testing.T) {
	for _, l := range [][]api.Int{nil, {}} {
		got, e := ratio.Unfold(l)
		wantError(t, got, e, api.ErrEmpty)
	}
	for _, l := range [][]api.Int{
		integers(1, 0), integers(0, 0), integers(5, 1, -1), integers(5, -1, 1), integers(4, 3, 2, 0), integers(7, 0, 1, -1), integers(9, 1, -2, 1),
		{{Abs: api.Nat{1}}, {Neg: true, Abs: api.Nat{1 << 32}}},
	} {
		got, e := ratio.Unfold(l)
		wantError(t, got, e, api.ErrZero)
	}
}

// Lists of small numbers of both signs meet a 0 on the way often.
func TestUnfoldOfAnyList(t *testing.T) {
	d, zeros := dice(7), 0
	for range 5000 {
		var l []api.Int
		for range 1 + d.below(7) {
			l = append(l, whole.Of(d.below(5)-2))
		}
		got, e := ratio.Unfold(l)
		x, zero := unfold(l)
		if zero {
			zeros++
			wantError(t, got, e, api.ErrZero)
			continue
		}
		want(t, "Unfold", must(t)(got, e), x)
	}
	if zeros < 500 || zeros > 4500 {
		t.Fatalf("%d of 5000 have a 0 on the way", zeros)
	}
}

// unfold tells whether a 0 came where 1 was to be divided.
func unfold(l []api.Int) (*big.Rat, bool) {
	x := new(big.Rat).SetInt(bigInt(l[len(l)-1]))
	for _, ahead := range slices.Backward(l[:len(l)-1]) {
		if x.Sign() == 0 {
			return nil, true
		}
		x.Add(new(big.Rat).Inv(x), new(big.Rat).SetInt(bigInt(ahead)))
	}
	return x, false
}

func TestSimplest(t *testing.T) {
	tests := []struct{ a, b, want string }{
		{"3/10", "1/2", "1/2"}, {"3/10", "2/5", "1/3"}, {"-1/2", "-3/10", "-1/2"}, {"-2/5", "-3/10", "-1/3"}, {"-1/3", "1/1000", "0"}, {"0", "7", "0"}, {"-7", "0", "0"},
		{"5/2", "19/2", "3"}, {"-19/2", "-5/2", "-3"}, {"5/2", "3", "3"}, {"3", "100", "3"}, {"-100", "-3", "-3"}, {"7/3", "7/3", "7/3"}, {"-7/3", "-7/3", "-7/3"},
		{"314159/100000", "314160/100000", "355/113"}, {"1/1000001", "1/1000000", "1/1000000"}, {"999999/1000000", "1", "1"}, {"0", "0", "0"},
	}
	for _, c := range tests {
		eachForm(t, number(c.a), func(a api.Rat) {
			eachForm(t, number(c.b), func(b api.Rat) {
				want(t, "Simplest", must(t)(ratio.Simplest(a, b)), number(c.want))
			})
		})
	}
	eachPair(t, func(a, b api.Rat, x, y *big.Rat) {
		got, e := ratio.Simplest(a, b)
		if x.Cmp(y) > 0 {
			wantError(t, got, e, api.ErrRange)
			return
		}
		must(t)(got, e)
		if z := toBig(got); z.Cmp(x) < 0 || z.Cmp(y) > 0 || z.Denom().Cmp(x.Denom()) > 0 || z.Denom().Cmp(y.Denom()) > 0 || !ratio.Right(got) {
			t.Fatalf("Simplest(%s, %s): %s", x, y, z)
		}
		if x.Cmp(y) == 0 {
			want(t, "Simplest", got, x)
		}
	})
}

// simplest goes through the dens from 1 on; of the whole numbers over one den the least amount stands next to 0, or at an end.
func simplest(x, y *big.Rat) *big.Rat {
	if x.Sign() <= 0 && y.Sign() >= 0 {
		return new(big.Rat)
	}
	if y.Sign() < 0 {
		out := simplest(new(big.Rat).Neg(y), new(big.Rat).Neg(x))
		return out.Neg(out)
	}
	for den := int64(1); ; den++ {
		up := new(big.Int).Mul(x.Num(), big.NewInt(den))
		up.Add(up, new(big.Int).Sub(x.Denom(), big.NewInt(1)))
		out := new(big.Rat).SetFrac(up.Div(up, x.Denom()), big.NewInt(den))
		if out.Cmp(y) <= 0 {
			return out
		}
	}
}

func TestSimplestAgainstAllDens(t *testing.T) {
	d := dice(8)
	for range 4000 {
		x := d.small(1 + d.below(200))
		y := new(big.Rat).Add(x, big.NewRat(int64(d.below(30)), int64(1+d.below(2000))))
		want(t, "Simplest", must(t)(ratio.Simplest(forms(x)[d.below(4)], forms(y)[d.below(4)])), simplest(x, y))
	}
}
