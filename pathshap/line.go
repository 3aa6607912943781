package pathshap

import (
	"dendron/api"
	"dendron/ratio"
)

// line is the product of the factors of some features: of each its share, and, if it is Ok, x. So for each k the coefficient of the power k is the sum, over all k of the features that are all Ok, of the product of the shares of the others. It has one coefficient more than there are features; without any it is 0, of whatever features.
//
// The coefficients are kept whole, and divided by one number for all: what is whole needs not be brought to lowest terms with each step.
type line struct {
	coefs []api.Rat
	over  api.Rat
}

// empty is the line of no features.
func empty() line {
	return line{coefs: []api.Rat{ratio.One()}, over: ratio.One()}
}

// with is the line of one feature more.
func (l line) with(p api.Part) line {
	share, of := apart(p.Share)
	out := line{coefs: make([]api.Rat, len(l.coefs)+1), over: ratio.Mul(l.over, of)}
	for k, x := range l.coefs {
		out.coefs[k] = ratio.Add(out.coefs[k], ratio.Mul(x, share))
		if p.Ok {
			out.coefs[k+1] = ratio.Mul(x, of)
		}
	}
	return out
}

// without is the line of one feature less, whose factor divides it; shares are above 0, so that they may divide too.
func (l line) without(p api.Part) line {
	share, of := apart(p.Share)
	out := line{coefs: make([]api.Rat, len(l.coefs)-1)}
	out.over, _ = ratio.Div(l.over, of)
	for k := range out.coefs {
		x := l.coefs[k]
		if p.Ok && k > 0 {
			x = ratio.Sub(x, ratio.Mul(out.coefs[k-1], of))
		}
		out.coefs[k], _ = ratio.Div(x, share)
	}
	return out
}

// longer is the same of one feature more, which changes no sum of weights: it is Ok, and of the share 1.
func (l line) longer() line {
	return l.with(api.Part{Share: ratio.One(), Ok: true})
}

// times is a line times a number.
func (l line) times(x api.Rat) line {
	num, den := apart(x)
	if len(l.coefs) == 0 || ratio.Sign(num) == 0 {
		return line{}
	}
	return line{coefs: each(l.coefs, num), over: ratio.Mul(l.over, den)}
}

// plus is the sum of two lines, as of so many features as the longer one has.
func (l line) plus(m line) line {
	switch {
	case len(l.coefs) == 0:
		return m
	case len(m.coefs) == 0:
		return l
	}
	for len(l.coefs) < len(m.coefs) {
		l = l.longer()
	}
	for len(m.coefs) < len(l.coefs) {
		m = m.longer()
	}
	x, _ := ratio.Div(m.over, l.over)
	up, down := apart(x)
	a, b := each(l.coefs, up), each(m.coefs, down)
	out := line{coefs: make([]api.Rat, len(a)), over: ratio.Mul(l.over, up)}
	for k := range out.coefs {
		out.coefs[k] = ratio.Add(a[k], b[k])
	}
	return out
}

// weights are the coefficients, each by how much coalitions of so many features count.
func (l line) weights() []api.Rat {
	out := l.weighed()
	for k, x := range out {
		out[k], _ = ratio.Div(x, l.over)
	}
	return out
}

// sum is the sum of the weights.
func (l line) sum() api.Rat {
	out, _ := ratio.Div(ratio.Sum(l.weighed()), l.over)
	return out
}

// weighed are the weights, but that they are not yet divided by what all are over: of n features for k of them k! (n - k)! / (n + 1)! times the coefficient.
func (l line) weighed() []api.Rat {
	n := len(l.coefs) - 1
	out := make([]api.Rat, len(l.coefs))
	count := ratio.Frac(1, n+1)
	for k, x := range l.coefs {
		if k > 0 {
			count = ratio.Mul(count, ratio.Frac(k, n-k+1))
		}
		out[k] = ratio.Mul(x, count)
	}
	return out
}

// each is all numbers of a list times one; it may be the list itself.
func each(l []api.Rat, by api.Rat) []api.Rat {
	if ratio.Same(by, ratio.One()) {
		return l
	}
	out := make([]api.Rat, len(l))
	for k, x := range l {
		out[k] = ratio.Mul(x, by)
	}
	return out
}

// apart are both parts of a number in its form, as whole numbers.
func apart(x api.Rat) (api.Rat, api.Rat) {
	return ratio.Int(x.Num), ratio.Int(api.Int{Abs: x.Den})
}
