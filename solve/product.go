package solve

import (
	"dendron/api"
	"dendron/ratio"
)

// Dot is the sum of products.
func Dot(a, b []api.Rat) (api.Rat, api.Errno) {
	if len(a) != len(b) {
		return api.Rat{}, api.ErrLength
	}
	return dot(a, b), api.OK
}

// Apply is a table times a row of numbers.
func Apply(a [][]api.Rat, x []api.Rat) ([]api.Rat, api.Errno) {
	out := make([]api.Rat, len(a))
	for i, row := range a {
		sum, e := Dot(row, x)
		if e != api.OK {
			return nil, e
		}
		out[i] = sum
	}
	return out, api.OK
}

// Mul is a table times a table.
func Mul(a, b [][]api.Rat) ([][]api.Rat, api.Errno) {
	_, columns, ok := Size(a)
	if !ok {
		return nil, api.ErrLength
	}
	flipped, e := Flip(b)
	if e != api.OK || columns != len(b) {
		return nil, api.ErrLength
	}
	return made(len(a), len(flipped), func(i, j int) api.Rat { return dot(a[i], flipped[j]) }), api.OK
}

// dot is Dot of as many. Tables have many zeros, and to pass over a product with one is far quicker than to make it.
func dot(a, b []api.Rat) api.Rat {
	var products []api.Rat
	for i, x := range a {
		if ratio.Sign(x) != 0 && ratio.Sign(b[i]) != 0 {
			products = append(products, ratio.Mul(x, b[i]))
		}
	}
	return ratio.Sum(products)
}
