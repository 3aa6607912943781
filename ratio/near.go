package ratio

import (
	"dendron/api"
)

const (
	mostNear    = 4096
	mostBetween = 64
	manyBetween = 1000
)

// fraction is a small number in lowest terms, counted from a whole number on.
type fraction struct {
	num, den int
}

func (f fraction) number() api.Rat {
	return Frac(f.num, f.den)
}

// Near is the number nearest to another one of those whose Den is not above most; of two the one of the lesser Den, of these the lesser.
func Near(a api.Rat, most int) (api.Rat, api.Errno) {
	if most < 1 || most > mostNear {
		return api.Rat{}, api.ErrRange
	}
	floor := Int(Floor(a))
	rest := Sub(a, floor)
	low, high := about(rest, most)
	nearest := low
	down, up := Sub(rest, low.number()), Sub(high.number(), rest)
	if c := Cmp(down, up); c > 0 || c == 0 && high.den < low.den {
		nearest = high
	}
	return Add(floor, nearest.number()), api.OK
}

// Between are all numbers from one to another whose Den is not above most, rising; at most a thousand.
func Between(a, b api.Rat, most int) ([]api.Rat, api.Errno) {
	if most < 1 || most > mostBetween {
		return nil, api.ErrRange
	}
	floor := Int(Floor(a))
	rest := Sub(a, floor)
	this, then := about(rest, most)
	if Cmp(this.number(), rest) < 0 {
		this, then = then, behind(this, then, most)
	}
	var out []api.Rat
	for {
		x := Add(floor, this.number())
		if Cmp(x, b) > 0 {
			return out, api.OK
		}
		if len(out) == manyBetween {
			return nil, api.ErrLimit
		}
		out = append(out, x)
		this, then = then, behind(this, then, most)
	}
}

// about are the greatest fraction that is not above a number, which is 0 or more and below 1, and the least that is above it, of those whose den is not above most.
//
// Of all fractions between two that stand side by side, the one of the least den has both their nums, and both their dens, together.
func about(a api.Rat, most int) (fraction, fraction) {
	low, high := fraction{0, 1}, fraction{1, 1}
	for low.den+high.den <= most {
		middle := fraction{low.num + high.num, low.den + high.den}
		if Cmp(middle.number(), a) <= 0 {
			low = middle
		} else {
			high = middle
		}
	}
	return low, high
}

// behind is the fraction that follows two that stand side by side: the second some times, less the first, as often as its den is not above most.
func behind(a, b fraction, most int) fraction {
	k := (most + a.den) / b.den
	return fraction{k*b.num - a.num, k*b.den - a.den}
}
