package poly

import (
	"dendron/api"
	"dendron/ratio"
)

const maxPower = 64

// Add is a sum.
func Add(a, b []api.Rat) []api.Rat {
	return made(max(len(a), len(b)), func(i int) api.Rat {
		return ratio.Add(coefficient(a, i), coefficient(b, i))
	})
}

// Sub is a difference.
func Sub(a, b []api.Rat) []api.Rat {
	return made(max(len(a), len(b)), func(i int) api.Rat {
		return ratio.Sub(coefficient(a, i), coefficient(b, i))
	})
}

// Scale is a polynomial times a number.
func Scale(p []api.Rat, by api.Rat) []api.Rat {
	return made(len(p), func(i int) api.Rat { return ratio.Mul(p[i], by) })
}

// Mul is a product.
func Mul(a, b []api.Rat) []api.Rat {
	a, b = Clean(a), Clean(b)
	if len(a) == 0 || len(b) == 0 {
		return nil
	}
	return made(len(a)+len(b)-1, func(i int) api.Rat { return column(a, b, i) })
}

// column is the coefficient of a power in a product.
func column(a, b []api.Rat, power int) api.Rat {
	var parts []api.Rat
	for i := max(0, power-len(b)+1); i <= min(power, len(a)-1); i++ {
		parts = append(parts, ratio.Mul(a[i], b[power-i]))
	}
	return ratio.Sum(parts)
}

// Pow is a power.
func Pow(p []api.Rat, n int) ([]api.Rat, api.Errno) {
	if n < 0 || n > maxPower {
		return nil, api.ErrRange
	}
	return power(p, n), api.OK
}

func power(p []api.Rat, n int) []api.Rat {
	if n == 0 {
		return []api.Rat{ratio.One()}
	}
	half := power(p, n/2)
	out := Mul(half, half)
	if n%2 != 0 {
		return Mul(out, p)
	}
	return out
}
