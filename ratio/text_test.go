package ratio_test

import (
	"math"
	"math/big"
	"slices"
	"strings"
	"testing"

	"dendron/api"
	"dendron/ratio"
)

// Promise 3.5: Parse.
func TestParse(t *testing.T) {
	tests := []struct{ text, want string }{
		{"0", "0"}, {"-0", "0"}, {"000", "0"}, {"-000", "0"}, {"7", "7"}, {"-7", "-7"}, {"007", "7"}, {"18446744073709551616", "18446744073709551616"},
		{"6/4", "3/2"}, {"-6/4", "-3/2"}, {"0/5", "0"}, {"-0/5", "0"}, {"5/1", "5"}, {"006/004", "3/2"}, {"4/6", "2/3"}, {"12/4", "3"}, {"1/18446744073709551616", "1/18446744073709551616"},
		{"1.50", "3/2"}, {"-1.50", "-3/2"}, {"0.125", "1/8"}, {"-0.125", "-1/8"}, {"0.0", "0"}, {"-0.0", "0"}, {"-0.000", "0"}, {"3.0", "3"}, {"3.000", "3"}, {"00.5", "1/2"}, {"10.01", "1001/100"},
		{"0.001", "1/1000"}, {"-0.001", "-1/1000"}, {"999999999.999999999", "999999999999999999/1000000000"},
	}
	for _, c := range tests {
		want(t, c.text, must(t)(ratio.Parse(c.text)), number(c.want))
	}
}

func TestParseErrors(t *testing.T) {
	for _, s := range []string{
		"", "-", "--1", "+1", "-+1", " 1", "1 ", "- 1", "1-", "a", "1a", "0x1", "1e3", "1_0", "٣", "1,5", "1\n", "\x00", "\xff",
		"/", "-/", "1/", "/1", "-/1", "-1/", "1/-1", "1/+1", "1//2", "1/2/3", "/1/2", "1/2/", "1 /2", "1/ 2", "1/a", "a/1", "a/0", "1\\2",
		".", "-.", "1.", ".1", "-.1", "-1.", "1.-1", "1..2", "1.2.3", ".1.2", "1.2.", "1.a", "a.1", "1. 2",
		"1.5/2", "1/2.5", "1.5/2.5", "./", "/.", "1./2", "1/.2", "1.2/", "1/2.", "1.0/0", "1/0.0",
	} {
		got, e := ratio.Parse(s)
		wantError(t, got, e, api.ErrForm)
	}
	for _, s := range []string{"1/0", "-1/0", "0/0", "-0/0", "5/000", "1/" + strings.Repeat("0", api.MaxDigits)} {
		got, e := ratio.Parse(s)
		wantError(t, got, e, api.ErrZero)
	}
}

// The error is that of the first part that is not right, whatever stands behind it.
func TestParseDigits(t *testing.T) {
	most := strings.Repeat("9", api.MaxDigits)
	more := "0" + most
	tests := []struct {
		text string
		want api.Errno
	}{
		{most, api.OK}, {"-" + most, api.OK}, {more, api.ErrDigits}, {"-" + more, api.ErrDigits},
		{most + "/" + most, api.OK}, {"-1/" + most, api.OK}, {"1/" + more, api.ErrDigits}, {more + "/1", api.ErrDigits}, {more + "/" + more, api.ErrDigits},
		{most + "." + most, api.OK}, {"-0." + most, api.OK}, {"1." + more, api.ErrDigits}, {"-" + more + ".1", api.ErrDigits}, {more + "." + more, api.ErrDigits},
		{more + "/a", api.ErrDigits}, {more + ".", api.ErrDigits}, {"a/" + more, api.ErrForm}, {"." + more, api.ErrForm}, {more + "/0", api.ErrDigits}, {more + "a", api.ErrForm}, {"1/" + more + "a", api.ErrForm},
		{more + "/1/1", api.ErrDigits}, {more + ".1.1", api.ErrDigits},
		// The slash is the first to cut by: a point on either side of it is no digit.
		{more + "/1.1", api.ErrDigits}, {more + ".1/1", api.ErrForm},
	}
	for _, c := range tests {
		got, e := ratio.Parse(c.text)
		if c.want != api.OK {
			wantError(t, got, e, c.want)
			continue
		}
		want(t, "Parse", must(t)(got, e), number(c.text))
	}
}

// All numbers of digits behind the point, so that each power of ten comes.
func TestParseEachLengthBehindThePoint(t *testing.T) {
	for n := range 300 {
		s := "-12." + strings.Repeat("3", n) + "7"
		want(t, s, must(t)(ratio.Parse(s)), number(s))
	}
	for _, n := range []int{4095, 4096, 4097, 8191, 8192, api.MaxDigits - 1, api.MaxDigits} {
		s := "5." + strings.Repeat("0", n-1) + "1"
		want(t, "Parse", must(t)(ratio.Parse(s)), number(s))
	}
}

// Promises 3.5 and 3.6: one text each, which is read again as the number.
func TestPrint(t *testing.T) {
	eachOne(t, func(a api.Rat, x *big.Rat) {
		s := ratio.Print(a)
		if s != x.RatString() {
			t.Fatalf("Print(%v): %s, not %s", a, s, x.RatString())
		}
		want(t, "Parse of Print", must(t)(ratio.Parse(s)), x)
	})
	d := dice(11)
	for range 2000 {
		x := d.number(1 + d.below(4))
		want(t, "Parse of Print", must(t)(ratio.Parse(ratio.Print(ofBig(x)))), x)
	}
	long := new(big.Rat).SetFrac(new(big.Int).Exp(big.NewInt(10), big.NewInt(api.MaxDigits-1), nil), new(big.Int).Exp(big.NewInt(3), big.NewInt(20000), nil))
	want(t, "Parse of Print", must(t)(ratio.Parse(ratio.Print(ofBig(long)))), long)
}

// Two numbers are one, if and only if their forms, and their texts, are.
func TestOneFormAndOneText(t *testing.T) {
	eachPair(t, func(a, b api.Rat, x, y *big.Rat) {
		one := x.Cmp(y) == 0
		if same(ratio.Clean(a), ratio.Clean(b)) != one || (ratio.Print(a) == ratio.Print(b)) != one {
			t.Fatalf("%s and %s", x, y)
		}
	})
}

func TestTexts(t *testing.T) {
	if got := ratio.Texts(nil); len(got) != 0 {
		t.Fatalf("%v", got)
	}
	var list []api.Rat
	var texts []string
	eachOne(t, func(a api.Rat, x *big.Rat) {
		list, texts = append(list, a), append(texts, x.RatString())
		if got := ratio.Texts(list); !slices.Equal(got, texts) {
			t.Fatalf("%v, not %v", got, texts)
		}
	})
}

// Promise 3.5: Decimal.
func TestDecimal(t *testing.T) {
	tests := []struct {
		a      string
		digits int
		want   string
	}{
		{"1/8", 2, "0.12"}, {"3/8", 2, "0.38"}, {"-1/8", 2, "-0.12"}, {"-3/8", 2, "-0.38"}, {"-2/3", 3, "-0.667"}, {"1/8", 3, "0.125"}, {"1/8", 5, "0.12500"},
		{"0", 0, "0"}, {"0", 3, "0.000"}, {"5", 0, "5"}, {"5", 2, "5.00"}, {"-5", 0, "-5"}, {"-12", 1, "-12.0"}, {"1234567/1000", 2, "1234.57"},
		{"1/2", 0, "0"}, {"3/2", 0, "2"}, {"5/2", 0, "2"}, {"-1/2", 0, "0"}, {"-3/2", 0, "-2"}, {"-5/2", 0, "-2"}, {"51/100", 0, "1"}, {"-51/100", 0, "-1"},
		{"1/200", 2, "0.00"}, {"3/200", 2, "0.02"}, {"-1/200", 2, "0.00"}, {"-3/200", 2, "-0.02"}, {"-1/1000", 2, "0.00"}, {"-1/1000", 3, "-0.001"}, {"-1/18446744073709551616", 4, "0.0000"},
		{"999/1000", 2, "1.00"}, {"-999/1000", 2, "-1.00"}, {"1999/1000", 1, "2.0"}, {"99999/10", 0, "10000"}, {"1/3", 1, "0.3"}, {"1/20", 1, "0.0"}, {"3/20", 1, "0.2"},
	}
	for _, c := range tests {
		eachForm(t, number(c.a), func(a api.Rat) {
			if got, e := ratio.Decimal(a, c.digits); e != api.OK || got != c.want {
				t.Fatalf("Decimal(%s, %d): %s %v", c.a, c.digits, got, e)
			}
		})
	}
}

func TestDecimalRange(t *testing.T) {
	for _, a := range []api.Rat{{}, ratio.One(), ratio.Frac(-1, 3)} {
		for _, digits := range []int{-1, -2, 10001, 10002, math.MaxInt, math.MinInt} {
			if got, e := ratio.Decimal(a, digits); got != "" || e != api.ErrRange {
				t.Fatalf("%q %v", got, e)
			}
		}
	}
	third := "-0." + strings.Repeat("3", 9999)
	for _, c := range []struct {
		digits int
		want   string
	}{{9999, third}, {10000, third + "3"}} {
		if got, e := ratio.Decimal(ratio.Frac(-1, 3), c.digits); e != api.OK || got != c.want {
			t.Fatalf("%d digits, %v", len(got), e)
		}
	}
	if got, e := ratio.Decimal(ofBig(number("12e-10000")), 10000); e != api.OK || got != "0."+strings.Repeat("0", 9998)+"12" {
		t.Fatalf("%d digits, %v", len(got), e)
	}
}

// Each text is read again as Round of so many powers of ten, divided by them.
func TestDecimalIsRounded(t *testing.T) {
	d := dice(12)
	for range 3000 {
		x, digits := d.small(1+d.below(2000)), d.below(6)
		got, e := ratio.Decimal(forms(x)[d.below(4)], digits)
		if e != api.OK || strings.HasPrefix(got, "-0.") && strings.Trim(got, "-0.") == "" || got == "-0" {
			t.Fatalf("Decimal(%s, %d): %s %v", x, digits, got, e)
		}
		if behind, ok := strings.CutPrefix(got[strings.IndexAny(got+".", "."):], "."); ok != (digits > 0) || len(behind) != digits {
			t.Fatalf("Decimal(%s, %d): %s", x, digits, got)
		}
		tens := new(big.Rat).SetInt(new(big.Int).Exp(big.NewInt(10), big.NewInt(int64(digits)), nil))
		n := ratio.Round(ofBig(new(big.Rat).Mul(x, tens)))
		want(t, got, must(t)(ratio.Parse(got)), new(big.Rat).Quo(new(big.Rat).SetInt(bigInt(n)), tens))
	}
}
