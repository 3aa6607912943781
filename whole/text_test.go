package whole_test

import (
	"math/big"
	"strings"
	"testing"

	"dendron/api"
	"dendron/whole"
)

// Promise 2.4.
func TestParse(t *testing.T) {
	nines := strings.Repeat("9", api.MaxDigits)
	for _, s := range []string{
		"0", "00", "1", "7", "007", "4294967296", "9223372036854775807", "9223372036854775808", "18446744073709551616",
		"100000000000000000000", strings.Repeat("0", api.MaxDigits), strings.Repeat("0", api.MaxDigits-1) + "1", nines[1:], nines,
	} {
		x, _ := new(big.Int).SetString(s, 10)
		want(t, "Parse", must(t)(whole.Parse(s)), x)
		want(t, "Parse", must(t)(whole.Parse("-"+s)), x.Neg(x))
	}
	for _, s := range []string{"-0", "-000"} {
		if got, e := whole.Parse(s); e != api.OK || !same(got, api.Int{}) {
			t.Errorf("%s: %v %v", s, got, e)
		}
	}
}

func TestParseErrors(t *testing.T) {
	long := strings.Repeat("0", api.MaxDigits)
	for _, s := range []string{
		"", "-", "--", "--1", "- 1", "-+1", "+-1", "+1", "1-", "-1-", "1-1", " -1", "-1 ", "-1\n", "a", "-a", "-1a", "-1.0", "-1/2", "-0x10", "-1e3", "-1_0",
		"\u22121", "\u20131", "-\u0663", "\u0663", "-\xff", "\xff", "-\x00", "\x00", "-1\x00", "-" + long + "x", "--" + long + "0", long + "-",
	} {
		got, e := whole.Parse(s)
		wantError(t, got, e, api.ErrForm)
	}
	for _, s := range []string{long + "0", "-" + long + "0", "1" + long, "-1" + long, "-" + long + long} {
		got, e := whole.Parse(s)
		wantError(t, got, e, api.ErrDigits)
	}
}

func TestPrint(t *testing.T) {
	eachOne(t, func(a api.Int, x *big.Int) {
		if got := whole.Print(a); got != x.String() {
			t.Fatalf("%s, not %s", got, x)
		}
	})
}

// Promise 2.5.
func TestParseOfPrint(t *testing.T) {
	eachOne(t, func(a api.Int, x *big.Int) { want(t, "Parse of Print", must(t)(whole.Parse(whole.Print(a))), x) })
	most := must(t)(whole.Parse("-" + strings.Repeat("9", api.MaxDigits)))
	want(t, "Parse of Print", must(t)(whole.Parse(whole.Print(most))), toBig(most))
}
