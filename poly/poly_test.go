package poly_test

import (
	"testing"

	"dendron/api"
	"dendron/poly"
	"dendron/ratio"
)

// Promise 4.1.
func TestClean(t *testing.T) {
	eachOne(t, func(p []api.Rat, c curve) { want(t, "Clean", poly.Clean(p), c) })
}

// Promise 4.1.
func TestDegree(t *testing.T) {
	eachOne(t, func(p []api.Rat, c curve) {
		if got := poly.Degree(p); got != len(c)-1 {
			t.Fatalf("degree of %v: %d", c, got)
		}
	})
	if poly.Degree(nil) != -1 || poly.Degree([]api.Rat{ratio.Zero(), {}}) != -1 || poly.Degree([]api.Rat{ratio.One()}) != 0 {
		t.Fatal("degrees of 0 and of 1")
	}
}

// Promise 4.1.
func TestSame(t *testing.T) {
	eachPair(t, func(a, b []api.Rat, c, d curve) {
		if got := poly.Same(a, b); got != (len(c.minus(d)) == 0) {
			t.Fatalf("%v and %v are one: %v", c, d, got)
		}
	})
}

// Promise 4.1: a long list of zeros is 0 too.
func TestManyZerosFromAbove(t *testing.T) {
	p := make([]api.Rat, 100000)
	if poly.Degree(p) != -1 || len(poly.Clean(p)) != 0 || !poly.Same(p, nil) {
		t.Fatal("not 0")
	}
	p[3] = ratio.Of(5)
	if poly.Degree(p) != 3 || !poly.Same(p, of("0 0 0 5").list()) || poly.Same(p, nil) {
		t.Fatal("not 5 x^3")
	}
	want(t, "Clean", poly.Clean(p), of("0 0 0 5"))
}
