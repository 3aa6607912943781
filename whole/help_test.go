package whole_test

import (
	"math/big"
	"slices"
	"testing"

	"dendron/api"
	"dendron/whole"
)

// dice gives the same limbs on every run, with many that are 0 or full: the edges of carrying lie there.
type dice uint64

func (d *dice) next() uint64 {
	*d = *d*6364136223846793005 + 1442695040888963407
	return uint64(*d) >> 16
}

func (d *dice) number(limbs int) *big.Int {
	out := new(big.Int)
	for range limbs {
		out.Lsh(out, 32)
		switch d.next() % 6 {
		case 0:
		case 1:
			out.Or(out, big.NewInt(1<<32-1))
		default:
			out.Or(out, big.NewInt(int64(d.next()&(1<<32-1))))
		}
	}
	if d.next()%2 == 0 {
		out.Neg(out)
	}
	return out
}

func number(s string) *big.Int {
	out, ok := new(big.Int).SetString(s, 0)
	if !ok {
		panic("no number: " + s)
	}
	return out
}

func ofBig(x *big.Int) api.Int {
	out := make(api.Nat, (x.BitLen()+31)/32)
	bytes := x.Bytes()
	for i, b := range bytes {
		at := len(bytes) - 1 - i
		out[at/4] |= uint64(b) << (at % 4 * 8)
	}
	return api.Int{Neg: x.Sign() < 0, Abs: out}
}

func toBig(a api.Int) *big.Int {
	out := new(big.Int)
	for _, x := range slices.Backward(a.Abs) {
		out.Lsh(out, 32)
		out.Or(out, big.NewInt(int64(x&(1<<32-1))))
	}
	if a.Neg {
		out.Neg(out)
	}
	return out
}

// edges are numbers about which signs, limbs or the bounds of an int change, of both signs.
func edges() []*big.Int {
	out := []*big.Int{new(big.Int)}
	for _, s := range []string{
		"1", "2", "3", "4", "6", "7", "10", "12", "18", "0x7fffffff", "0x80000000", "0xffffffff", "0x100000000", "0x100000001",
		"0x7ffffffffffffffe", "0x7fffffffffffffff", "0x8000000000000000", "0x8000000000000001",
		"0xfffffffffffffffe", "0xffffffffffffffff", "0x10000000000000000", "0x10000000000000001",
		"100000000000000000000", "0xffffffffffffffffffffffff", "0x1000000000000000000000000",
	} {
		out = append(out, number(s), number("-"+s))
	}
	return out
}

func samples() []*big.Int {
	out := edges()
	d := dice(1)
	for _, n := range []int{2, 3, 3, 5, 8, 13, 45, 60, 90} {
		out = append(out, d.number(n))
	}
	return out
}

// forms are what the tests hand in as one number: as it may be; with an amount that may not be (bits above the 32nd, zeros on top); and 0 as Neg. Behind the end of the limbs lies memory that must stay.
func forms(x *big.Int) []api.Int {
	a := ofBig(x)
	soiled := api.Nat{}
	for i, l := range a.Abs {
		soiled = append(soiled, l|uint64(i+1)<<32)
	}
	soiled = append(soiled, 0, 5<<32)
	behind := func(neg bool, l api.Nat) api.Int {
		return api.Int{Neg: neg, Abs: append(slices.Clone(l), 77, 88, 99)[:len(l)]}
	}
	out := []api.Int{behind(a.Neg, a.Abs), behind(a.Neg, soiled)}
	if x.Sign() == 0 {
		out = append(out, behind(true, nil), behind(true, soiled), api.Int{}, api.Int{Neg: true})
	}
	return out
}

func memory(a api.Int) api.Nat {
	return slices.Clone(a.Abs[:cap(a.Abs)])
}

// eachOne hands each sample, in all forms, to a test, and looks whether it stays as it is.
func eachOne(t *testing.T, test func(a api.Int, x *big.Int)) {
	t.Helper()
	for _, x := range samples() {
		for _, a := range forms(x) {
			keep := memory(a)
			test(a, x)
			if !slices.Equal(keep, memory(a)) {
				t.Fatalf("an argument has changed: %s", x)
			}
		}
	}
}

// eachPair is eachOne of each two samples.
func eachPair(t *testing.T, test func(a, b api.Int, x, y *big.Int)) {
	t.Helper()
	eachOne(t, func(a api.Int, x *big.Int) {
		eachOne(t, func(b api.Int, y *big.Int) { test(a, b, x, y) })
	})
}

// same tells whether a number is just as it has to be: its sign, its limbs, none more.
func same(a, b api.Int) bool {
	return a.Neg == b.Neg && slices.Equal(a.Abs, b.Abs)
}

func want(t *testing.T, what string, got api.Int, x *big.Int) {
	t.Helper()
	if !same(got, ofBig(x)) || !whole.Right(got) {
		t.Fatalf("%s: %v, not %s", what, got, x)
	}
}

func must(t *testing.T) func(a api.Int, e api.Errno) api.Int {
	return func(a api.Int, e api.Errno) api.Int {
		t.Helper()
		if e != api.OK {
			t.Fatal(e)
		}
		return a
	}
}

func wantError(t *testing.T, got api.Int, e, want api.Errno) {
	t.Helper()
	if e != want || !same(got, api.Int{}) {
		t.Fatalf("%v with %v, not %v with nothing", e, got, want)
	}
}

// The helpers stand on this: a test that takes them for granted would tell nothing otherwise.
func TestHelpers(t *testing.T) {
	for _, x := range samples() {
		for i, a := range forms(x) {
			if toBig(a).Cmp(x) != 0 || (i == 0) != same(a, ofBig(x)) && x.Sign() != 0 {
				t.Fatalf("%s: %v", x, a)
			}
		}
	}
}
