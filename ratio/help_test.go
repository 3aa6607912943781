package ratio_test

import (
	"math/big"
	"slices"
	"testing"

	"dendron/api"
	"dendron/ratio"
)

// dice gives the same numbers on every run.
type dice uint64

func (d *dice) next() uint64 {
	*d = *d*6364136223846793005 + 1442695040888963407
	return uint64(*d) >> 16
}

func (d *dice) below(n int) int {
	return int(d.next() % uint64(n))
}

// amount has many limbs that are 0 or full: the edges of carrying lie there.
func (d *dice) amount(limbs int) *big.Int {
	out := new(big.Int)
	for range limbs {
		out.Lsh(out, 32)
		switch d.below(6) {
		case 0:
		case 1:
			out.Or(out, big.NewInt(1<<32-1))
		default:
			out.Or(out, big.NewInt(int64(d.next()&(1<<32-1))))
		}
	}
	return out
}

func (d *dice) number(limbs int) *big.Rat {
	num, den := d.amount(limbs), d.amount(limbs)
	if d.below(2) == 0 {
		num.Neg(num)
	}
	return new(big.Rat).SetFrac(num, den.Add(den, big.NewInt(1)))
}

// small is a number whose parts have one limb, many of them whole.
func (d *dice) small(most int) *big.Rat {
	return big.NewRat(int64(d.below(2*most+1)-most), int64(1+d.below(most)))
}

func number(s string) *big.Rat {
	out, ok := new(big.Rat).SetString(s)
	if !ok {
		panic("no number: " + s)
	}
	return out
}

func limbs(x *big.Int) api.Nat {
	out := make(api.Nat, (x.BitLen()+31)/32)
	bytes := x.Bytes()
	for i, b := range bytes {
		at := len(bytes) - 1 - i
		out[at/4] |= uint64(b) << (at % 4 * 8)
	}
	return out
}

func integer(x *big.Int) api.Int {
	return api.Int{Neg: x.Sign() < 0, Abs: limbs(x)}
}

func ofBig(x *big.Rat) api.Rat {
	return api.Rat{Num: integer(x.Num()), Den: limbs(x.Denom())}
}

func bigInt(a api.Int) *big.Int {
	out := new(big.Int)
	for _, x := range slices.Backward(a.Abs) {
		out.Lsh(out, 32)
		out.Or(out, big.NewInt(int64(x&(1<<32-1))))
	}
	if a.Neg {
		out.Neg(out)
	}
	return out
}

func toBig(a api.Rat) *big.Rat {
	den := bigInt(api.Int{Abs: a.Den})
	if den.Sign() == 0 {
		return new(big.Rat)
	}
	return new(big.Rat).SetFrac(bigInt(a.Num), den)
}

func bigs(texts ...string) []*big.Rat {
	var out []*big.Rat
	for _, s := range texts {
		out = append(out, number(s))
	}
	return out
}

func samples() []*big.Rat {
	out := bigs("0", "1", "-1", "2", "-2", "1/2", "-1/2", "3/2", "-3/2", "5/2", "-5/2", "7/2", "-7/2", "1/3", "-1/3", "2/3", "-2/3", "22/7", "-22/7", "12", "1/12", "-18",
		"4294967295/2", "4294967296", "-1/4294967296", "4294967297/4294967296", "18446744073709551615/2", "18446744073709551616", "-1/18446744073709551616", "-9223372036854775808",
		"100000000000000000000/3", "-3/100000000000000000000")
	d := dice(1)
	for _, n := range []int{1, 2, 2, 3, 5, 9, 21} {
		out = append(out, d.number(n))
	}
	return out
}

// soiled are limbs that may not be, of the same number: bits above the 32nd, zeros on top.
func soiled(a api.Nat) api.Nat {
	var out api.Nat
	for i, l := range a {
		out = append(out, l|uint64(i+1)<<32)
	}
	return append(out, 0, 5<<32)
}

// forms are what the tests hand in as one number: as it may be; with parts that something divides, that may not be, or both; and 0 as all that it can be. Behind the end of the limbs lies memory that must stay.
func forms(x *big.Rat) []api.Rat {
	behind := func(neg bool, num, den api.Nat) api.Rat {
		room := func(l api.Nat) api.Nat { return append(slices.Clone(l), 77, 88, 99)[:len(l)] }
		return api.Rat{Num: api.Int{Neg: neg, Abs: room(num)}, Den: room(den)}
	}
	times := func(n int64) (api.Nat, api.Nat) {
		by := big.NewInt(n)
		return limbs(new(big.Int).Mul(x.Num(), by)), limbs(new(big.Int).Mul(x.Denom(), by))
	}
	neg := x.Sign() < 0
	num, den := times(1)
	more, below := times(6 << 40)
	out := []api.Rat{behind(neg, num, den), behind(neg, more, below), behind(neg, soiled(num), soiled(den)), behind(neg, soiled(more), below)}
	if x.Sign() == 0 {
		out = append(out, api.Rat{}, behind(true, nil, nil), behind(true, soiled(nil), api.Nat{3}), behind(false, nil, api.Nat{1}),
			behind(true, api.Nat{5, 6}, nil), behind(false, api.Nat{1}, api.Nat{0}), behind(true, api.Nat{7}, api.Nat{1 << 32, 0}))
	}
	return out
}

func memory(a api.Rat) [2]api.Nat {
	return [2]api.Nat{slices.Clone(a.Num.Abs[:cap(a.Num.Abs)]), slices.Clone(a.Den[:cap(a.Den)])}
}

func sameMemory(a, b [2]api.Nat) bool {
	return slices.Equal(a[0], b[0]) && slices.Equal(a[1], b[1])
}

// eachForm hands a number, in all forms, to a test, and looks whether it stays as it is.
func eachForm(t *testing.T, x *big.Rat, test func(a api.Rat)) {
	t.Helper()
	for _, a := range forms(x) {
		keep := memory(a)
		test(a)
		if !sameMemory(keep, memory(a)) {
			t.Fatalf("an argument has changed: %s", x)
		}
	}
}

func eachOne(t *testing.T, test func(a api.Rat, x *big.Rat)) {
	t.Helper()
	for _, x := range samples() {
		eachForm(t, x, func(a api.Rat) { test(a, x) })
	}
}

func eachPair(t *testing.T, test func(a, b api.Rat, x, y *big.Rat)) {
	t.Helper()
	eachOne(t, func(a api.Rat, x *big.Rat) {
		eachOne(t, func(b api.Rat, y *big.Rat) { test(a, b, x, y) })
	})
}

// same tells whether a number is just as it has to be: its sign, its limbs, none more.
func same(a, b api.Rat) bool {
	return sameInt(a.Num, b.Num) && slices.Equal(a.Den, b.Den)
}

func sameInt(a, b api.Int) bool {
	return a.Neg == b.Neg && slices.Equal(a.Abs, b.Abs)
}

func want(t *testing.T, what string, got api.Rat, x *big.Rat) {
	t.Helper()
	if !same(got, ofBig(x)) || !ratio.Right(got) {
		t.Fatalf("%s: %v, not %s", what, got, x.RatString())
	}
}

func wantInt(t *testing.T, what string, got api.Int, x *big.Int) {
	t.Helper()
	if !sameInt(got, integer(x)) {
		t.Fatalf("%s: %v, not %s", what, got, x)
	}
}

func must(t *testing.T) func(a api.Rat, e api.Errno) api.Rat {
	return func(a api.Rat, e api.Errno) api.Rat {
		t.Helper()
		if e != api.OK {
			t.Fatal(e)
		}
		return a
	}
}

func wantError(t *testing.T, got api.Rat, e, want api.Errno) {
	t.Helper()
	if e != want || !same(got, api.Rat{}) {
		t.Fatalf("%v with %v, not %v with nothing", e, got, want)
	}
}

// The helpers stand on this: a test that takes them for granted would tell nothing otherwise.
func TestHelpers(t *testing.T) {
	for _, x := range samples() {
		for i, a := range forms(x) {
			if toBig(a).Cmp(x) != 0 || same(a, ofBig(x)) != (i == 0 || x.Sign() == 0 && slices.Equal(a.Den, api.Nat{1}) && len(a.Num.Abs) == 0) {
				t.Fatalf("%s: %v", x, a)
			}
		}
	}
}
