package nat_test

import (
	"math"
	"math/big"
	"slices"
	"testing"

	"dendron/api"
	"dendron/nat"
)

// Promise 1.1.
func TestRight(t *testing.T) {
	for _, a := range []api.Nat{nil, {}, {1}, {1<<32 - 1}, {0, 1}, {0, 0, 1<<32 - 1}} {
		if !nat.Right(a) {
			t.Errorf("%x may be", a)
		}
	}
	for _, a := range []api.Nat{{0}, {1, 0}, {1 << 32}, {1 << 32, 1}, {1, 1 << 32}, {1, 1 << 63}, {math.MaxUint64}, {5, 0, 0}, {0, 0}} {
		if nat.Right(a) {
			t.Errorf("%x may not be", a)
		}
	}
	eachOne(t, func(a api.Nat, x *big.Int) {
		if nat.Right(a) != slices.Equal(a, ofBig(x)) {
			t.Fatalf("%x", a)
		}
	})
}

func TestClean(t *testing.T) {
	tests := []struct{ limbs, want api.Nat }{
		{nil, nil},
		{api.Nat{0}, nil},
		{api.Nat{0, 0, 0}, nil},
		{api.Nat{1 << 32, 1 << 63, 0}, nil},
		{api.Nat{1<<32 | 5}, api.Nat{5}},
		{api.Nat{math.MaxUint64, math.MaxUint64}, api.Nat{1<<32 - 1, 1<<32 - 1}},
		{api.Nat{0, 3, 1 << 32}, api.Nat{0, 3}},
		{api.Nat{1, 2, 3}, api.Nat{1, 2, 3}},
	}
	for _, c := range tests {
		if got := nat.Clean(c.limbs); !slices.Equal(got, c.want) || !nat.Right(got) {
			t.Errorf("Clean(%x): %x, not %x", c.limbs, got, c.want)
		}
	}
	eachOne(t, func(a api.Nat, x *big.Int) { wantNumber(t, "Clean", nat.Clean(a), x) })
}

func TestOfAndTo(t *testing.T) {
	for _, n := range []uint64{0, 1, 1<<32 - 1, 1 << 32, 1<<32 + 1, 1<<63 + 5, math.MaxUint64} {
		a := nat.Of(n)
		wantNumber(t, "Of", a, new(big.Int).SetUint64(n))
		if got, ok := nat.To(a); got != n || !ok {
			t.Errorf("To(Of(%d)): %d %v", n, got, ok)
		}
	}
	for _, a := range []api.Nat{{0, 0, 1}, {1, 0, 1}, {math.MaxUint64, 0, 1}, {0, 0, 0, 1}} {
		if got, ok := nat.To(a); got != 0 || ok {
			t.Errorf("To(%x): %d %v", a, got, ok)
		}
	}
	if got, ok := nat.To(api.Nat{1<<40 | 7, 1<<50 | 1, 1 << 32, 0}); got != 1<<32+7 || !ok {
		t.Errorf("To of limbs that may not be: %d %v", got, ok)
	}
	eachOne(t, func(a api.Nat, x *big.Int) {
		got, ok := nat.To(a)
		if ok != x.IsUint64() || ok && got != x.Uint64() || !ok && got != 0 {
			t.Fatalf("To(%x): %d %v", a, got, ok)
		}
	})
}

func TestZeroAndEven(t *testing.T) {
	for _, a := range []api.Nat{nil, {}, {0}, {0, 0}, {1 << 32}, {1 << 32, 1 << 33}} {
		if !nat.Zero(a) || !nat.Even(a) {
			t.Errorf("%x is 0", a)
		}
	}
	if nat.Zero(api.Nat{0, 1}) || nat.Even(api.Nat{1<<32 | 1}) || !nat.Even(api.Nat{2, 1}) {
		t.Error("limbs are taken wrong")
	}
	eachOne(t, func(a api.Nat, x *big.Int) {
		if nat.Zero(a) != (x.Sign() == 0) || nat.Even(a) != (x.Bit(0) == 0) {
			t.Fatalf("%x: zero %v, even %v", a, nat.Zero(a), nat.Even(a))
		}
	})
}

func TestCmp(t *testing.T) {
	eachPair(t, func(a, b api.Nat, x, y *big.Int) {
		if got := nat.Cmp(a, b); got != x.Cmp(y) {
			t.Fatalf("Cmp(%x, %x): %d", a, b, got)
		}
	})
}

// Promise 1.2.
func TestAdd(t *testing.T) {
	eachPair(t, func(a, b api.Nat, x, y *big.Int) { wantNumber(t, "Add", nat.Add(a, b), new(big.Int).Add(x, y)) })
}

func TestMul(t *testing.T) {
	if got := nat.Mul(twoTo(32), twoTo(32)); !slices.Equal(got, api.Nat{0, 0, 1}) {
		t.Errorf("2^64: %x", got)
	}
	eachPair(t, func(a, b api.Nat, x, y *big.Int) { wantNumber(t, "Mul", nat.Mul(a, b), new(big.Int).Mul(x, y)) })
}

// Lengths about the bounds of the ways by rows, by halves and by pieces, and ones of much carrying.
func TestMulLengths(t *testing.T) {
	d := dice(2)
	for _, n := range []int{39, 40, 41, 79, 80, 81, 160, 161, 333, 700} {
		for _, m := range []int{1, 39, 40, 41, 79, 80, 81, 160, 161, 333, 700} {
			a, b := d.number(n), d.number(m)
			wantNumber(t, "Mul", nat.Mul(a, b), new(big.Int).Mul(toBig(a), toBig(b)))
			full := new(big.Int).Sub(new(big.Int).Lsh(big.NewInt(1), uint(32*n)), big.NewInt(1))
			wantNumber(t, "Mul", nat.Mul(ofBig(full), b), new(big.Int).Mul(full, toBig(b)))
			thin := twoTo(uint(32*n - 1))
			wantNumber(t, "Mul", nat.Mul(thin, b), new(big.Int).Mul(toBig(thin), toBig(b)))
		}
	}
}

func TestSub(t *testing.T) {
	eachPair(t, func(a, b api.Nat, x, y *big.Int) {
		got, e := nat.Sub(a, b)
		if x.Cmp(y) < 0 {
			wantError(t, got, e, api.ErrNeg)
			return
		}
		wantNumber(t, "Sub", must(t)(got, e), new(big.Int).Sub(x, y))
	})
}

func TestDivMod(t *testing.T) {
	q, r, e := nat.DivMod(number("100000000000000000000"), nat.Of(7))
	if nat.Print(q) != "14285714285714285714" || nat.Print(r) != "2" || e != api.OK {
		t.Errorf("10^20 divided by 7: %s, %s, %v", nat.Print(q), nat.Print(r), e)
	}
	eachPair(t, func(a, b api.Nat, x, y *big.Int) {
		q, r, e := nat.DivMod(a, b)
		if y.Sign() == 0 {
			wantError(t, q, e, api.ErrZero)
			wantError(t, r, e, api.ErrZero)
			return
		}
		wantQuotient(t, q, r, e, x, y)
	})
}

func wantQuotient(t *testing.T, q, r api.Nat, e api.Errno, x, y *big.Int) {
	t.Helper()
	if e != api.OK {
		t.Fatal(e)
	}
	quotient, rest := new(big.Int).QuoRem(x, y, new(big.Int))
	wantNumber(t, "quotient", q, quotient)
	wantNumber(t, "rest", r, rest)
}

// Dividends next to multiples of divisors whose highest limbs mislead: guesses at limbs of the quotient are too great there.
func TestDivModGuesses(t *testing.T) {
	d := dice(3)
	for range 3000 {
		by := d.number(2 + int(d.next()%4))
		by[len(by)-1] = []uint64{1, 1 << 31, 1<<31 - 1, 1<<32 - 1, 1 + d.next()%9}[d.next()%5]
		x := new(big.Int).Mul(toBig(by), toBig(d.number(1+int(d.next()%4))))
		x.Add(x, big.NewInt(int64(d.next()%3)-1))
		q, r, e := nat.DivMod(ofBig(x), by)
		wantQuotient(t, q, r, e, x, toBig(by))
	}
}

// Promise 1.3.
func TestShl(t *testing.T) {
	eachOne(t, func(a api.Nat, x *big.Int) {
		for _, n := range []int{0, 1, 31, 32, 33, 63, 64, 95, 1000, api.MaxShift} {
			wantNumber(t, "Shl", must(t)(nat.Shl(a, n)), new(big.Int).Lsh(x, uint(n)))
		}
		for _, n := range []int{-1, math.MinInt, api.MaxShift + 1, math.MaxInt} {
			got, e := nat.Shl(a, n)
			wantError(t, got, e, api.ErrRange)
		}
	})
}

func TestShr(t *testing.T) {
	eachOne(t, func(a api.Nat, x *big.Int) {
		for _, n := range []int{0, 1, 31, 32, 33, 63, 64, 65, 95, 6399, 6400, api.MaxShift, api.MaxShift + 1} {
			wantNumber(t, "Shr", must(t)(nat.Shr(a, n)), new(big.Int).Rsh(x, uint(n)))
		}
		wantNumber(t, "Shr", must(t)(nat.Shr(a, math.MaxInt)), new(big.Int))
		for _, n := range []int{-1, math.MinInt} {
			got, e := nat.Shr(a, n)
			wantError(t, got, e, api.ErrRange)
		}
	})
}

func TestLen(t *testing.T) {
	eachOne(t, func(a api.Nat, x *big.Int) {
		if nat.Len(a) != x.BitLen() {
			t.Fatalf("Len(%x): %d", a, nat.Len(a))
		}
	})
}

func TestBit(t *testing.T) {
	eachOne(t, func(a api.Nat, x *big.Int) {
		for i := range x.BitLen() + 100 {
			if nat.Bit(a, i) != int(x.Bit(i)) {
				t.Fatalf("Bit(%x, %d): %d", a, i, nat.Bit(a, i))
			}
		}
		for _, i := range []int{-1, -32, -64, math.MinInt, math.MaxInt} {
			if nat.Bit(a, i) != 0 {
				t.Fatalf("Bit(%x, %d)", a, i)
			}
		}
	})
}

// Promise 1.4.
func TestGcdAndLcm(t *testing.T) {
	eachPair(t, func(a, b api.Nat, x, y *big.Int) {
		g := new(big.Int).GCD(nil, nil, x, y)
		wantNumber(t, "Gcd", nat.Gcd(a, b), g)
		wantNumber(t, "Lcm", nat.Lcm(a, b), leastMultiple(x, y, g))
	})
}

func leastMultiple(x, y, g *big.Int) *big.Int {
	if x.Sign() == 0 || y.Sign() == 0 {
		return new(big.Int)
	}
	out := new(big.Int).Div(x, g)
	return out.Mul(out, y)
}

// Numbers with great divisors in common, and such as follow each other in Fibonacci's row, which take the most steps.
func TestGcdSteps(t *testing.T) {
	d := dice(4)
	for i := range 400 {
		g := toBig(d.number(int(d.next() % 12)))
		x := new(big.Int).Mul(g, toBig(d.number(i%25)))
		y := new(big.Int).Mul(g, toBig(d.number(int(d.next()%25))))
		wantNumber(t, "Gcd", nat.Gcd(ofBig(x), ofBig(y)), new(big.Int).GCD(nil, nil, x, y))
	}
	x, y := big.NewInt(1), big.NewInt(1)
	for range 1500 {
		x, y = new(big.Int).Add(x, y), x
		wantNumber(t, "Gcd", nat.Gcd(ofBig(x), ofBig(y)), big.NewInt(1))
		wantNumber(t, "Gcd", nat.Gcd(ofBig(new(big.Int).Mul(x, x)), ofBig(new(big.Int).Mul(x, y))), x)
	}
}

func TestPow(t *testing.T) {
	eachOne(t, func(a api.Nat, x *big.Int) {
		for _, n := range []int{0, 1, 2, 3, 5, 8, 31} {
			wantNumber(t, "Pow", must(t)(nat.Pow(a, n)), new(big.Int).Exp(x, big.NewInt(int64(n)), nil))
		}
		for _, n := range []int{-1, math.MinInt, api.MaxPower + 1, math.MaxInt} {
			got, e := nat.Pow(a, n)
			wantError(t, got, e, api.ErrRange)
		}
	})
	for i := range uint64(picks) {
		for _, n := range []int{api.MaxPower - 1, api.MaxPower} {
			wantNumber(t, "Pow", must(t)(nat.Pow(pick(i), n)), new(big.Int).Exp(toBig(pick(i)), big.NewInt(int64(n)), nil))
		}
	}
}

func TestPowMod(t *testing.T) {
	d := dice(5)
	numbers := append(samples()[:picks], d.number(2), d.number(3), d.number(7))
	for _, n := range numbers {
		for _, m := range numbers {
			for _, a := range numbers {
				wantPowMod(t, a, n, m)
				wantPowMod(t, soiled(a), soiled(n), soiled(m))
			}
		}
	}
}

func wantPowMod(t *testing.T, a, n, m api.Nat) {
	t.Helper()
	keepA, keepN, keepM := memory(a), memory(n), memory(m)
	got, e := nat.PowMod(a, n, m)
	if toBig(m).Sign() == 0 {
		wantError(t, got, e, api.ErrZero)
	} else {
		wantNumber(t, "PowMod", must(t)(got, e), new(big.Int).Exp(toBig(a), toBig(n), toBig(m)))
	}
	if !slices.Equal(keepA, memory(a)) || !slices.Equal(keepN, memory(n)) || !slices.Equal(keepM, memory(m)) {
		t.Fatal("arguments have changed")
	}
}

func TestPowModOfOneIsZero(t *testing.T) {
	for _, n := range []uint64{0, 1, 5} {
		wantNumber(t, "PowMod", must(t)(nat.PowMod(nat.Of(3), nat.Of(n), nat.Of(1))), new(big.Int))
	}
	wantNumber(t, "PowMod", must(t)(nat.PowMod(nil, nil, nat.Of(5))), big.NewInt(1))
}

func TestSqrt(t *testing.T) {
	eachOne(t, func(a api.Nat, x *big.Int) { wantNumber(t, "Sqrt", nat.Sqrt(a), new(big.Int).Sqrt(x)) })
	for n := range uint64(5000) {
		wantNumber(t, "Sqrt", nat.Sqrt(nat.Of(n)), new(big.Int).Sqrt(new(big.Int).SetUint64(n)))
	}
}

// About squares the root changes.
func TestSqrtAboutSquares(t *testing.T) {
	for _, a := range samples() {
		square := new(big.Int).Mul(toBig(a), toBig(a))
		for _, by := range []int64{-1, 0, 1} {
			x := new(big.Int).Add(square, big.NewInt(by))
			if x.Sign() >= 0 {
				wantNumber(t, "Sqrt", nat.Sqrt(ofBig(x)), new(big.Int).Sqrt(x))
			}
		}
	}
}
