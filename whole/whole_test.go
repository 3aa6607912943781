package whole_test

import (
	"math"
	"math/big"
	"testing"

	"dendron/api"
	"dendron/whole"
)

// Promise 2.1.
func TestRight(t *testing.T) {
	for _, a := range []api.Int{{}, {Abs: api.Nat{}}, {Abs: api.Nat{1}}, {Neg: true, Abs: api.Nat{1}}, {Neg: true, Abs: api.Nat{0, 1<<32 - 1}}} {
		if !whole.Right(a) {
			t.Errorf("%v may be", a)
		}
	}
	for _, neg := range []bool{false, true} {
		for _, abs := range []api.Nat{{0}, {0, 0}, {1, 0}, {1 << 32}, {1 << 32, 1}, {1, 1 << 32}, {math.MaxUint64}} {
			if whole.Right(api.Int{Neg: neg, Abs: abs}) {
				t.Errorf("%v %x may not be", neg, abs)
			}
		}
	}
	for _, a := range []api.Int{{Neg: true}, {Neg: true, Abs: api.Nat{}}} {
		if whole.Right(a) {
			t.Error("0 may not be Neg")
		}
	}
	eachOne(t, func(a api.Int, x *big.Int) {
		if whole.Right(a) != same(a, ofBig(x)) {
			t.Fatalf("%v", a)
		}
	})
}

func TestClean(t *testing.T) {
	tests := []struct{ any, want api.Int }{
		{api.Int{}, api.Int{}},
		{api.Int{Neg: true}, api.Int{}},
		{api.Int{Neg: true, Abs: api.Nat{0, 0}}, api.Int{}},
		{api.Int{Neg: true, Abs: api.Nat{1 << 32, 1 << 63}}, api.Int{}},
		{api.Int{Neg: true, Abs: api.Nat{1<<32 | 5, 0}}, api.Int{Neg: true, Abs: api.Nat{5}}},
		{api.Int{Abs: api.Nat{math.MaxUint64}}, api.Int{Abs: api.Nat{1<<32 - 1}}},
	}
	for _, c := range tests {
		if got := whole.Clean(c.any); !same(got, c.want) {
			t.Errorf("Clean(%v): %v, not %v", c.any, got, c.want)
		}
	}
	eachOne(t, func(a api.Int, x *big.Int) { want(t, "Clean", whole.Clean(a), x) })
}

func TestOf(t *testing.T) {
	for _, n := range []int{
		0, 1, -1, 2, -2, 1<<31 - 1, -1 << 31, 1<<32 - 1, 1 << 32, -1<<32 + 1, -1 << 32, -1<<32 - 1,
		math.MinInt64, math.MinInt64 + 1, math.MaxInt64, math.MaxInt64 - 1,
	} {
		a := whole.Of(n)
		want(t, "Of", a, big.NewInt(int64(n)))
		if got, ok := whole.To(a); got != n || !ok {
			t.Errorf("To(Of(%d)): %d %v", n, got, ok)
		}
	}
}

func TestTo(t *testing.T) {
	tests := []struct {
		text string
		n    int
		ok   bool
	}{
		{"0", 0, true}, {"-1", -1, true},
		{"9223372036854775806", math.MaxInt64 - 1, true}, {"9223372036854775807", math.MaxInt64, true},
		{"9223372036854775808", 0, false}, {"9223372036854775809", 0, false},
		{"-9223372036854775807", math.MinInt64 + 1, true}, {"-9223372036854775808", math.MinInt64, true},
		{"-9223372036854775809", 0, false}, {"-9223372036854775810", 0, false},
		{"18446744073709551615", 0, false}, {"-18446744073709551615", 0, false},
		{"18446744073709551616", 0, false}, {"-18446744073709551616", 0, false}, {"-18446744073709551617", 0, false},
	}
	for _, c := range tests {
		for _, a := range forms(number(c.text)) {
			if n, ok := whole.To(a); n != c.n || ok != c.ok {
				t.Errorf("To(%s): %d %v", c.text, n, ok)
			}
		}
	}
	eachOne(t, func(a api.Int, x *big.Int) {
		n, ok := whole.To(a)
		if ok != x.IsInt64() || ok && int64(n) != x.Int64() || !ok && n != 0 {
			t.Fatalf("To(%s): %d %v", x, n, ok)
		}
	})
}

func TestSignNegAbs(t *testing.T) {
	eachOne(t, func(a api.Int, x *big.Int) {
		if whole.Sign(a) != x.Sign() {
			t.Fatalf("Sign(%s): %d", x, whole.Sign(a))
		}
		want(t, "Neg", whole.Neg(a), new(big.Int).Neg(x))
		want(t, "Abs", whole.Abs(a), new(big.Int).Abs(x))
	})
}

func TestCmp(t *testing.T) {
	eachPair(t, func(a, b api.Int, x, y *big.Int) {
		if got := whole.Cmp(a, b); got != x.Cmp(y) {
			t.Fatalf("Cmp(%s, %s): %d", x, y, got)
		}
	})
}
