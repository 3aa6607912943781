package ratio

import (
	"dendron/api"
	"dendron/nat"
	"dendron/whole"
)

// Add is a sum.
func Add(a, b api.Rat) api.Rat {
	n, d := parts(a)
	m, e := parts(b)
	if nat.Cmp(d, e) == 0 {
		// Sums of many numbers of one Den would else grow to its square each time, to be brought back.
		return lowest(whole.Add(n, m), d)
	}
	return lowest(whole.Add(times(n, e), times(m, d)), nat.Mul(d, e))
}

// Sub is a difference.
func Sub(a, b api.Rat) api.Rat {
	return Add(a, api.Rat{Num: whole.Neg(b.Num), Den: b.Den})
}

// Mul is a product.
func Mul(a, b api.Rat) api.Rat {
	n, d := parts(a)
	m, e := parts(b)
	return lowest(whole.Mul(n, m), nat.Mul(d, e))
}

// Div is a quotient.
func Div(a, b api.Rat) (api.Rat, api.Errno) {
	n, d := parts(a)
	m, e := parts(b)
	return Make(times(n, e), times(m, d))
}

// Neg is a number with the other sign.
func Neg(a api.Rat) api.Rat {
	n, d := parts(a)
	return lowest(whole.Neg(n), d)
}

// Inv is 1 divided by a number.
func Inv(a api.Rat) (api.Rat, api.Errno) {
	n, d := parts(a)
	return Make(api.Int{Abs: d}, n)
}

// Abs is a number's amount.
func Abs(a api.Rat) api.Rat {
	n, d := parts(a)
	return lowest(whole.Abs(n), d)
}

// Pow is a power; of a number below 0 that of 1 divided by the number.
func Pow(a api.Rat, n int) (api.Rat, api.Errno) {
	switch {
	case n < -api.MaxPower || n > api.MaxPower:
		return api.Rat{}, api.ErrRange
	case n >= 0:
		return power(Clean(a), n), api.OK
	}
	inverse, e := Inv(a)
	if e != api.OK {
		return api.Rat{}, e
	}
	return power(inverse, -n), api.OK
}

// power is a power of a number in its form, whose parts' powers have again no divisor in common; n is 0 to MaxPower.
func power(a api.Rat, n int) api.Rat {
	num, _ := whole.Pow(a.Num, n)
	den, _ := nat.Pow(a.Den, n)
	return api.Rat{Num: num, Den: den}
}

// Sum is the sum of numbers.
//
// It is taken by halves: one after the other, a long number ahead of many short ones would be gone through with each of them.
func Sum(l []api.Rat) api.Rat {
	switch len(l) {
	case 0:
		return Zero()
	case 1:
		return Clean(l[0])
	}
	half := len(l) / 2
	return Add(Sum(l[:half]), Sum(l[half:]))
}

// Mean is the mean of numbers.
func Mean(l []api.Rat) (api.Rat, api.Errno) {
	if len(l) == 0 {
		return api.Rat{}, api.ErrEmpty
	}
	return Div(Sum(l), Of(len(l)))
}
