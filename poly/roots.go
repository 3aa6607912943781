package poly

import (
	"dendron/api"
	"dendron/ratio"
)

// link is one of a chain: a monic polynomial times a number, held apart since the numbers grow much longer than the rest needs.
type link struct {
	monic []api.Rat
	by    api.Rat
}

// Chain is a polynomial, its slope, and the rests of dividing, with the other sign: down to the last that is not 0.
func Chain(p []api.Rat) [][]api.Rat {
	var out [][]api.Rat
	for _, l := range links(p) {
		out = append(out, Scale(l.monic, l.by))
	}
	return out
}

// Roots is how many numbers above one, and not above another, a polynomial is 0 at, each once; it must not be 0 itself.
//
// By Sturm: it is by how much the turns of sign along the chain become fewer. That holds at the ends too if no root comes twice, so the last of the chain, which holds those that do, is divided out.
func Roots(p []api.Rat, from, to api.Rat) (int, api.Errno) {
	switch {
	case Degree(p) < 0:
		return 0, api.ErrZero
	case ratio.Cmp(from, to) > 0:
		return 0, api.ErrRange
	}
	chain := links(p)
	if again := chain[len(chain)-1].monic; len(again) > 1 {
		once, _ := divide(chain[0].monic, again)
		chain = links(once)
	}
	return turns(chain, from) - turns(chain, to), api.OK
}

// links are the chain of a polynomial; none of 0.
func links(p []api.Rat) []link {
	var out []link
	last, next := linkOf(p, ratio.One()), linkOf(Derive(p), ratio.One())
	if len(last.monic) > 0 {
		out = append(out, last)
	}
	for len(next.monic) > 0 {
		out = append(out, next)
		_, rest := divide(last.monic, next.monic)
		last, next = next, linkOf(rest, ratio.Neg(last.by))
	}
	return out
}

func linkOf(p []api.Rat, by api.Rat) link {
	p = trimmed(p)
	if len(p) == 0 {
		return link{}
	}
	return link{monic: Monic(p), by: ratio.Mul(top(p), by)}
}

// turns is how often the sign turns along a chain at a number; those that are 0 there have none.
func turns(chain []link, x api.Rat) int {
	n, last := 0, 0
	for _, l := range chain {
		sign := ratio.Sign(Eval(l.monic, x)) * ratio.Sign(l.by)
		if sign*last < 0 {
			n++
		}
		if sign != 0 {
			last = sign
		}
	}
	return n
}
