package ratio

import (
	"math/bits"
	"strings"

	"dendron/api"
	"dendron/nat"
	"dendron/whole"
)

// Parse is the number that a text is: digits; digits, a point, digits; digits, a slash, digits; a minus ahead of it, or not.
func Parse(s string) (api.Rat, api.Errno) {
	amount, minus := strings.CutPrefix(s, "-")
	num, den, e := parseParts(amount)
	if e != api.OK {
		return api.Rat{}, e
	}
	return Make(api.Int{Neg: minus, Abs: num}, api.Int{Abs: den})
}

func parseParts(s string) (num, den api.Nat, e api.Errno) {
	if before, after, ok := strings.Cut(s, "/"); ok {
		return parseTwo(before, after)
	}
	before, after, ok := strings.Cut(s, ".")
	if !ok {
		num, e = nat.Parse(s)
		return num, nat.Of(1), e
	}
	num, part, e := parseTwo(before, after)
	if e != api.OK {
		return nil, nil, e
	}
	den = powerOfTen(len(after))
	return nat.Add(nat.Mul(num, den), part), den, api.OK
}

func parseTwo(first, second string) (api.Nat, api.Nat, api.Errno) {
	a, e := nat.Parse(first)
	if e != api.OK {
		return nil, nil, e
	}
	b, e := nat.Parse(second)
	return a, b, e
}

// powerOfTen goes beyond nat.Pow, which ends at MaxPower.
func powerOfTen(n int) api.Nat {
	out, ten := nat.Of(1), nat.Of(10)
	for i := range bits.Len(uint(n)) {
		if n>>i&1 == 1 {
			out = nat.Mul(out, ten)
		}
		ten = nat.Mul(ten, ten)
	}
	return out
}

// Print is a number as text: a whole number, or a fraction.
func Print(a api.Rat) string {
	a = Clean(a)
	if isOne(a.Den) {
		return whole.Print(a.Num)
	}
	return whole.Print(a.Num) + "/" + nat.Print(a.Den)
}

// Decimal is a number with so many digits behind the point, rounded to the nearest (of two to the even one).
func Decimal(a api.Rat, digits int) (string, api.Errno) {
	if digits < 0 || digits > api.MaxDigits {
		return "", api.ErrRange
	}
	n := Round(api.Rat{Num: times(a.Num, powerOfTen(digits)), Den: a.Den})
	text := nat.Print(n.Abs)
	if lack := digits + 1 - len(text); lack > 0 {
		text = strings.Repeat("0", lack) + text
	}
	if digits > 0 {
		at := len(text) - digits
		text = text[:at] + "." + text[at:]
	}
	if n.Neg {
		text = "-" + text
	}
	return text, api.OK
}

// Texts are numbers as texts.
func Texts(l []api.Rat) []string {
	out := make([]string, len(l))
	for i, a := range l {
		out[i] = Print(a)
	}
	return out
}
