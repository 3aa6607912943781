package ratio

import (
	"dendron/api"
	"dendron/nat"
	"dendron/whole"
)

// Fold is a number's whole part, that of 1 divided by what is left, and so on, until nothing is left.
func Fold(a api.Rat) []api.Int {
	n, d := parts(a)
	q, r := divide(n, d)
	out := []api.Int{q}
	for !nat.Zero(r) {
		part, left, _ := nat.DivMod(d, r)
		out = append(out, api.Int{Abs: part})
		d, r = r, left
	}
	return out
}

// Unfold is the number whose whole parts are told so.
func Unfold(l []api.Int) (api.Rat, api.Errno) {
	if len(l) == 0 {
		return api.Rat{}, api.ErrEmpty
	}
	num, den := l[len(l)-1], whole.Of(1)
	for i := range len(l) - 1 {
		if whole.Sign(num) == 0 {
			return api.Rat{}, api.ErrZero
		}
		ahead := l[len(l)-2-i]
		num, den = whole.Add(whole.Mul(ahead, num), den), num
	}
	return Make(num, den)
}

// Simplest is the number of the least Den, and of these of the least amount, from one number to another one.
func Simplest(a, b api.Rat) (api.Rat, api.Errno) {
	switch {
	case Cmp(a, b) > 0:
		return api.Rat{}, api.ErrRange
	case Sign(a) > 0:
		return Unfold(shortest(a.Num.Abs, a.Den, b.Num.Abs, b.Den))
	case Sign(b) < 0:
		out, e := Unfold(shortest(b.Num.Abs, b.Den, a.Num.Abs, a.Den))
		return Neg(out), e
	}
	return Zero(), api.OK
}

// shortest are the whole parts of the simplest number from n / d, which is above 0, to m / e.
//
// Where a whole number lies from one to the other, it is the least such. Where none does, all that lies there has one whole part; of what is left, the simplest is the simplest upside down too.
func shortest(n, d, m, e api.Nat) []api.Int {
	var out []api.Int
	for {
		low, left, _ := nat.DivMod(n, d)
		high, right, _ := nat.DivMod(m, e)
		switch {
		case nat.Zero(left):
			return append(out, api.Int{Abs: low})
		case nat.Cmp(low, high) < 0:
			return append(out, next(api.Int{Abs: low}))
		}
		out = append(out, api.Int{Abs: low})
		n, d, m, e = e, right, d, left
	}
}
