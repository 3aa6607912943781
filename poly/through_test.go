package poly_test

import (
	"math/big"
	"testing"

	"dendron/api"
	"dendron/poly"
	"dendron/ratio"
)

// points are numbers of which no two are one.
func (d *dice) points(n int) curve {
	var out curve
	for len(out) < n {
		x, found := d.number(12), false
		for _, y := range out {
			found = found || x.Cmp(y) == 0
		}
		if !found {
			out = append(out, x)
		}
	}
	return out
}

func oddList(l curve, kind int) []api.Rat {
	var out []api.Rat
	for i, x := range l {
		out = append(out, odd(x, kind+i))
	}
	return append(out, ratio.Of(3))[:len(l)]
}

// Promise 4.3: at each x it is the y, and its degree is below their number, which only one is.
func TestThrough(t *testing.T) {
	d := dice(7)
	for n := range 14 {
		for range 6 {
			x, y := d.points(n), curve(nil)
			for range n {
				y = append(y, d.number(9))
			}
			for i, xs := range [][]api.Rat{x.list(), oddList(x, 0), oddList(x, 1)} {
				ys := [][]api.Rat{y.list(), oddList(y, 1), oddList(y, 0)}[i]
				stays(t, func() {
					p := must(t)(poly.Through(xs, ys))
					if poly.Degree(p) >= n || !sameList(p, poly.Clean(p)) || cap(p) != len(p) {
						t.Fatalf("%v through %d points", p, n)
					}
					for i := range x {
						wantNumber(t, "Through", poly.Eval(p, xs[i]), y[i])
					}
				}, xs, ys)
			}
		}
	}
}

// Promise 4.3: points of a polynomial lead back to it, also if they are more than its degree asks for.
func TestThroughPointsOfACurve(t *testing.T) {
	d := dice(8)
	for range 40 {
		c := d.curve(d.below(6)-1, 9)
		x := d.points(len(c) + d.below(4))
		var y curve
		for _, at := range x {
			y = append(y, c.value(at))
		}
		want(t, "Through", must(t)(poly.Through(x.list(), y.list())), c)
	}
}

// Promise 4.3: none, one, all of them 0.
func TestThroughAtItsEdges(t *testing.T) {
	want(t, "Through", must(t)(poly.Through(nil, nil)), nil)
	want(t, "Through", must(t)(poly.Through([]api.Rat{}, nil)), nil)
	want(t, "Through", must(t)(poly.Through(of("5").list(), of("7/2").list())), of("7/2"))
	want(t, "Through", must(t)(poly.Through(of("5").list(), make([]api.Rat, 1))), nil)
	want(t, "Through", must(t)(poly.Through(of("1 2 3").list(), make([]api.Rat, 3))), nil)
	want(t, "Through", must(t)(poly.Through([]api.Rat{{}}, of("4").list())), of("4"))
}

// Promise 4.3: wrong inputs. Lists of two lengths are told ahead of numbers that are one.
func TestThroughWrongLengths(t *testing.T) {
	one, two := of("1").list(), of("1 1").list()
	for _, l := range [][2][]api.Rat{{nil, one}, {one, nil}, {one, two}, {two, one}, {two, nil}, {two, of("1 2 3").list()}} {
		p, e := poly.Through(l[0], l[1])
		wantError(t, p, e, api.ErrLength)
	}
}

// Promise 4.3: any two of x that are one number, in any two forms.
func TestThroughTwoThatAreOne(t *testing.T) {
	d := dice(9)
	for n := 2; n < 7; n++ {
		for i := range n {
			for j := range n {
				if i == j {
					continue
				}
				x := d.points(n)
				for k, y := range []curve{d.points(n), x, make(curve, n)} {
					for m := range y {
						if y[m] == nil {
							y[m] = new(big.Rat)
						}
					}
					xs := x.list()
					xs[j] = odd(x[i], k)
					p, e := poly.Through(xs, y.list())
					wantError(t, p, e, api.ErrZero)
				}
			}
		}
	}
	p, e := poly.Through([]api.Rat{{}, ratio.Zero()}, of("1 2").list())
	wantError(t, p, e, api.ErrZero)
}
