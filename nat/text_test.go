package nat_test

import (
	"math/big"
	"slices"
	"strings"
	"testing"

	"dendron/api"
	"dendron/nat"
)

// Promise 1.5.
func TestParse(t *testing.T) {
	nines := strings.Repeat("9", api.MaxDigits)
	for _, s := range []string{
		"0", "00", "7", "007", "999999999", "1000000000", "0000000001000000000", "4294967295", "4294967296",
		"18446744073709551615", "18446744073709551616", "100000000000000000000", nines[:9999], nines,
		strings.Repeat("0", api.MaxDigits), strings.Repeat("0", api.MaxDigits-1) + "1", "1" + strings.Repeat("0", api.MaxDigits-1),
	} {
		want, _ := new(big.Int).SetString(s, 10)
		wantNumber(t, "Parse", must(t)(nat.Parse(s)), want)
	}
}

func TestParseErrors(t *testing.T) {
	long := strings.Repeat("0", api.MaxDigits)
	for _, s := range []string{
		"", "a", "1a", "a1", "-1", "+1", " 1", "1 ", "1\n", "1_000", "1.0", "0x10", "1e3", "1/2", "\x00", "1\x00", "\xff", "1\xb2",
		"\u0663", "\uff11", "1\u00b2", "/", ":", "1:", long + "x", "x" + long, long + long + "\u0663",
	} {
		got, e := nat.Parse(s)
		wantError(t, got, e, api.ErrForm)
	}
	for _, s := range []string{long + "0", long + "1", "1" + long, strings.Repeat("9", api.MaxDigits+1), long + long} {
		got, e := nat.Parse(s)
		wantError(t, got, e, api.ErrDigits)
	}
}

func TestPrintAndDigits(t *testing.T) {
	eachOne(t, func(a api.Nat, x *big.Int) {
		if nat.Print(a) != x.String() || nat.Digits(a) != len(x.String()) {
			t.Fatalf("%x: %s, %d digits", a, nat.Print(a), nat.Digits(a))
		}
	})
}

// Numbers about powers of ten gain a digit; the lengths are those at which a text is cut into more blocks.
func TestPrintAboutTens(t *testing.T) {
	for _, n := range []int64{0, 1, 8, 9, 10, 18, 19, 27, 279, 280, 287, 288, 289, 575, 576, 577, 1151, 1152, 1153, 2303, 2304, 2305, 4607, 4608, 4609, 9215, 9216, 9217, 9999, 10000, 20000} {
		ten := new(big.Int).Exp(big.NewInt(10), big.NewInt(n), nil)
		for _, by := range []int64{-1, 0, 1} {
			x := new(big.Int).Add(ten, big.NewInt(by))
			if got := nat.Print(ofBig(x)); got != x.String() {
				t.Fatalf("10^%d and %d: %s", n, by, got)
			}
			if got := nat.Digits(ofBig(x)); got != len(x.String()) {
				t.Fatalf("10^%d and %d: %d digits", n, by, got)
			}
		}
	}
}

func TestPrintLengths(t *testing.T) {
	d := dice(6)
	for n := range 150 {
		full := new(big.Int).Sub(new(big.Int).Lsh(big.NewInt(1), uint(32*n)), big.NewInt(1))
		for _, x := range []*big.Int{full, toBig(d.number(n)), toBig(twoTo(uint(32 * n)))} {
			if got := nat.Print(ofBig(x)); got != x.String() {
				t.Fatalf("%s, not %s", got, x)
			}
		}
	}
}

func TestPrintOfTheGreatestShift(t *testing.T) {
	a := must(t)(nat.Shl(nat.Of(1), api.MaxShift))
	if nat.Print(a) != toBig(a).String() {
		t.Fatal("2^MaxShift")
	}
}

// Promise 1.6.
func TestParseOfPrint(t *testing.T) {
	eachOne(t, func(a api.Nat, x *big.Int) { wantNumber(t, "Parse of Print", must(t)(nat.Parse(nat.Print(a))), x) })
}

func TestNumbersHangTogether(t *testing.T) {
	eachPair(t, func(a, b api.Nat, x, y *big.Int) {
		sum, product := nat.Add(a, b), nat.Mul(a, b)
		same(t, sum, nat.Add(b, a))
		same(t, product, nat.Mul(b, a))
		same(t, must(t)(nat.Sub(sum, b)), nat.Clean(a))
		same(t, nat.Mul(sum, sum), nat.Add(nat.Add(nat.Mul(a, a), nat.Mul(b, b)), nat.Add(product, product)))
		same(t, nat.Mul(nat.Gcd(a, b), nat.Lcm(a, b)), product)
		if nat.Zero(b) {
			return
		}
		q, r, e := nat.DivMod(a, b)
		if e != api.OK || nat.Cmp(r, b) >= 0 {
			t.Fatal(q, r, e)
		}
		same(t, nat.Add(nat.Mul(q, b), r), nat.Clean(a))
		q, r, _ = nat.DivMod(product, b)
		same(t, q, nat.Clean(a))
		same(t, r, nil)
	})
}

func same(t *testing.T, a, b api.Nat) {
	t.Helper()
	if !slices.Equal(a, b) {
		t.Fatalf("%x is not %x", a, b)
	}
}
