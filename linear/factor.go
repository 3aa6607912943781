package linear

import (
	"dendron/api"
	"dendron/poly"
	"dendron/ratio"
)

// factor is a part's factor times the Den of its share: whole coefficients need not be brought to lowest terms with each step.
//
// If there are two of them, nothing above 1 divides both. So what is a factor times something whole stays whole when it is divided by the factor.
func factor(p api.Part) []api.Rat {
	num, den := apart(p.Share)
	if p.Ok {
		return []api.Rat{num, den}
	}
	return poly.Clean([]api.Rat{num})
}

// wholes is the product of what factor tells of parts.
//
// It is taken by halves: one after the other, all that there is would be gone through with each of them.
func wholes(l []api.Part) []api.Rat {
	switch len(l) {
	case 0:
		return []api.Rat{ratio.One()}
	case 1:
		return factor(l[0])
	}
	half := len(l) / 2
	return poly.Mul(wholes(l[:half]), wholes(l[half:]))
}

// over is what wholes is to be divided by, to be the product of the parts' factors as they are.
func over(l []api.Part) api.Rat {
	out := ratio.One()
	for _, p := range l {
		_, den := apart(p.Share)
		out = ratio.Mul(out, den)
	}
	return out
}

// apart are both parts of a number in its form, as whole numbers.
func apart(x api.Rat) (api.Rat, api.Rat) {
	x = ratio.Clean(x)
	return ratio.Int(x.Num), ratio.Int(api.Int{Abs: x.Den})
}
