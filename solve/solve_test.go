package solve_test

import (
	"math"
	"testing"

	"dendron/api"
	"dendron/ratio"
	"dendron/solve"
)

// Promise 5.1, also of no rows and of rows of none.
func TestSize(t *testing.T) {
	each(t, func(a [][]api.Rat, g grid) {
		columns := g.columns
		if len(g.rows) == 0 {
			columns = 0
		}
		if r, c, ok := solve.Size(a); r != len(g.rows) || c != columns || !ok {
			t.Fatalf("%v: %d, %d, %v", g, r, c, ok)
		}
	})
	for _, a := range ragged() {
		if r, c, ok := solve.Size(a); r != 0 || c != 0 || ok {
			t.Fatalf("%v: %d, %d, %v", a, r, c, ok)
		}
	}
}

// Promise 5.1: the same numbers in their form, of what may not be a table too.
func TestCopy(t *testing.T) {
	each(t, func(a [][]api.Rat, g grid) { want(t, "Copy", solve.Copy(a), g) })
	for _, a := range ragged() {
		if got := solve.Copy(a); !sameTable(got, a) {
			t.Fatalf("%v: %v", a, got)
		}
	}
	got := solve.Copy([][]api.Rat{{{}, odd(numbers("2/3")[0], 0)}, nil, {odd(numbers("-5")[0], 1)}})
	if !sameTable(got, [][]api.Rat{{ratio.Zero(), ratio.Frac(2, 3)}, nil, {ratio.Of(-5)}}) {
		t.Fatal(got)
	}
}

// Promise 5.1: none, if n is below 1.
func TestUnit(t *testing.T) {
	for _, n := range []int{math.MinInt, -64, -1, 0} {
		if got := solve.Unit(n); len(got) != 0 {
			t.Fatalf("%d: %v", n, got)
		}
	}
	for n := range 12 {
		want(t, "Unit", solve.Unit(n), unit(n))
	}
}

// Promise 5.1.
func TestFlip(t *testing.T) {
	each(t, func(a [][]api.Rat, g grid) {
		want(t, "Flip", must[[][]api.Rat](t)(solve.Flip(a)), g.flipped())
	})
	want(t, "Flip", must[[][]api.Rat](t)(solve.Flip(of("1 2 3", "4 5 6").table())), of("1 4", "2 5", "3 6"))
	want(t, "Flip", must[[][]api.Rat](t)(solve.Flip(make([][]api.Rat, 4))), grid{})
	for _, a := range ragged() {
		wantError[[]api.Rat](t, api.ErrLength)(solve.Flip(a))
	}
}
