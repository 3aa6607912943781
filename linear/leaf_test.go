package linear_test

import (
	"math"
	"math/big"
	"slices"
	"testing"

	"dendron/api"
	"dendron/linear"
	"dendron/poly"
	"dendron/ratio"
)

// legOf is a leg by its shares, those with an x ahead of them being ok.
func legOf(shares ...string) api.Leg {
	var out api.Leg
	for i, s := range shares {
		ok := s[0] == 'x'
		if ok {
			s = s[1:]
		}
		out.Parts = append(out.Parts, api.Part{Feature: i, Share: number(s), Ok: ok})
	}
	return out
}

func wantTexts(t *testing.T, what string, got []api.Rat, want []string) {
	t.Helper()
	if !slices.Equal(ratio.Texts(got), want) {
		t.Fatalf("%s: %q, not %q", what, ratio.Texts(got), want)
	}
}

// Promise 16.1: polynomials told by hand.
func TestLeaf(t *testing.T) {
	for _, c := range []struct {
		shares, want []string
	}{
		{nil, []string{"1"}},
		{[]string{"x1/2"}, []string{"1/2", "1"}},
		{[]string{"1/2"}, []string{"1/2"}},
		{[]string{"x1/2", "1/3"}, []string{"1/6", "1/3"}},
		{[]string{"x1/2", "x1/3"}, []string{"1/6", "5/6", "1"}},
		{[]string{"x1/2", "x-1/2"}, []string{"-1/4", "0", "1"}},
		{[]string{"x0"}, []string{"0", "1"}},
		{[]string{"x0", "x0", "5"}, []string{"0", "0", "5"}},
		{[]string{"x2", "x3", "x5", "x7"}, []string{"210", "247", "101", "17", "1"}},
		// A factor 0 leaves nothing.
		{[]string{"0"}, []string{}},
		{[]string{"x1/2", "0", "x1/3"}, []string{}},
	} {
		wantTexts(t, "Leaf", linear.Leaf(legOf(c.shares...)), c.want)
	}
}

// Promise 16.1: without each of the parts, told by hand.
func TestWithout(t *testing.T) {
	for _, c := range []struct {
		shares []string
		i      int
		want   []string
	}{
		{[]string{"x1/2", "1/3"}, 0, []string{"1/3"}},
		{[]string{"x1/2", "1/3"}, 1, []string{"1/2", "1"}},
		{[]string{"7"}, 0, []string{"1"}},
		{[]string{"x7"}, 0, []string{"1"}},
		{[]string{"x0", "x2", "3"}, 0, []string{"6", "3"}},
		{[]string{"x1/2", "x1/2", "x1/3"}, 1, []string{"1/6", "5/6", "1"}},
		{[]string{"x1/2", "x1/2", "x1/3"}, 2, []string{"1/4", "1", "1"}},
		// 0 divided by what is not 0.
		{[]string{"x1/2", "0", "3"}, 0, []string{}},
		{[]string{"x1/2", "0", "3"}, 2, []string{}},
	} {
		got, e := linear.Without(legOf(c.shares...), c.i)
		if e != api.OK {
			t.Fatal(c, e)
		}
		wantTexts(t, "Without", got, c.want)
	}
}

// Promise 16.1: there is no such part, whatever it and the others are.
func TestWithoutRange(t *testing.T) {
	for n := range 6 {
		for _, share := range []string{"0", "x0", "1/2", "x1/2"} {
			l := legOf(slices.Repeat([]string{share}, n)...)
			for _, i := range []int{-1, -2, n, n + 1, math.MaxInt, math.MinInt} {
				if p, e := linear.Without(l, i); e != api.ErrRange || len(p) > 0 {
					t.Fatal(n, share, i, p, e)
				}
			}
		}
	}
	// What lies behind the list's end is no part.
	l := legOf("1/2", "1/3")
	l.Parts = l.Parts[:1]
	if p, e := linear.Without(l, 1); e != api.ErrRange || len(p) > 0 {
		t.Fatal(p, e)
	}
}

// Promise 16.1: a factor is 0, if its share is 0 and it is not ok, in all that 0 can be.
func TestWithoutZero(t *testing.T) {
	for _, zero := range zeros() {
		l := legOf("x1/2", "1/3", "1")
		l.Parts[1].Share = zero
		if p := linear.Leaf(l); len(p) > 0 {
			t.Fatal(zero, p)
		}
		if p, e := linear.Without(l, 1); e != api.ErrZero || len(p) > 0 {
			t.Fatal(zero, p, e)
		}
		// Also where another one is 0 too.
		l.Parts[2].Share = zero
		if p, e := linear.Without(l, 1); e != api.ErrZero || len(p) > 0 {
			t.Fatal(zero, p, e)
		}
		l.Parts[1].Ok = true
		if p, e := linear.Without(l, 1); e != api.OK || len(p) > 0 {
			t.Fatal(zero, p, e)
		}
		l.Parts[2].Ok = true
		wantTexts(t, "Leaf", linear.Leaf(l), []string{"0", "0", "1/2", "1"})
		p, e := linear.Without(l, 1)
		if e != api.OK {
			t.Fatal(e)
		}
		wantTexts(t, "Without", p, []string{"0", "1/2", "1"})
	}
}

// wantLeg asks for a leg's polynomial, and for that without each of its parts.
func wantLeg(t *testing.T, l api.Leg, parts []part, curve func([]part) []*big.Rat) {
	t.Helper()
	if p := linear.Leaf(l); !isCurve(p, curve(parts)) {
		t.Fatalf("Leaf of %v: %q, not %v", l, ratio.Texts(p), curve(parts))
	}
	whole := curve(parts)
	for i, x := range parts {
		p, e := linear.Without(l, i)
		want := curve(slices.Concat(parts[:i], parts[i+1:]))
		switch {
		case !x.ok && x.share.Sign() == 0:
			if e != api.ErrZero || len(p) > 0 {
				t.Fatalf("Without %d of %v: %q, %v", i, l, ratio.Texts(p), e)
			}
		case e != api.OK || !isCurve(p, want):
			t.Fatalf("Without %d of %v: %q, %v; not %v", i, l, ratio.Texts(p), e, want)
		default:
			// It is the quotient: the factor times it is the whole again.
			back := poly.Mul(p, linear.Leaf(api.Leg{Parts: l.Parts[i : i+1]}))
			if !isCurve(back, whole) {
				t.Fatalf("%q times the factor %d of %v is not %v", ratio.Texts(p), i, l, whole)
			}
		}
	}
}

// Promise 16.1: legs by chance, of any shares, by all sets of their parts.
func TestLegsByChance(t *testing.T) {
	d := dice(3)
	for range 1200 {
		l, parts := d.anyLeg(d.below(8))
		wantLeg(t, l, parts, curveBySets)
	}
}

// Promise 16.1: as many parts as there can be features, and more.
func TestLongLegs(t *testing.T) {
	d := dice(5)
	for _, n := range []int{63, 64, 65, 100} {
		l, parts := d.anyLeg(n)
		for i := range parts {
			if parts[i].share.Sign() == 0 {
				l.Parts[i].Share, parts[i].share = number("5/7"), big.NewRat(5, 7)
			}
		}
		if p := linear.Leaf(l); !isCurve(p, sums(parts)) {
			t.Fatalf("%d parts: %q", n, ratio.Texts(p))
		}
		for _, i := range []int{0, 1, n / 2, n - 1} {
			if p, e := linear.Without(l, i); e != api.OK || !isCurve(p, sums(slices.Concat(parts[:i], parts[i+1:]))) {
				t.Fatalf("%d parts without %d: %q, %v", n, i, ratio.Texts(p), e)
			}
		}
	}
}
