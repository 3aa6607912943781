package solve_test

import (
	"math/big"
	"testing"

	"dendron/api"
	"dendron/solve"
)

// Promise 5.1: the sum of products, 0 of none.
func TestDot(t *testing.T) {
	d := dice(2)
	for n := range 20 {
		x, y := d.list(n, 9), d.list(n, 1<<40)
		for kind := range 3 {
			a, b := oddList(x, kind), oddList(y, kind+1)
			stays(t, func() {
				wantNumber(t, "Dot", must[api.Rat](t)(solve.Dot(a, b)), dot(x, y))
				wantNumber(t, "Dot", must[api.Rat](t)(solve.Dot(list(x), b)), dot(x, y))
			}, [][]api.Rat{a, b})
		}
	}
	wantNumber(t, "Dot", must[api.Rat](t)(solve.Dot(nil, []api.Rat{})), new(big.Rat))
	wantNumber(t, "Dot", must[api.Rat](t)(solve.Dot(make([]api.Rat, 3), list(numbers("1 2 3")))), new(big.Rat))
	wantNumber(t, "Dot", must[api.Rat](t)(solve.Dot(list(numbers("1 2 3")), list(numbers("1 1 -1")))), new(big.Rat))
}

// Promise 5.1: wrong inputs.
func TestDotOfTwoLengths(t *testing.T) {
	for n := range 4 {
		for m := range 4 {
			got, e := solve.Dot(make([]api.Rat, n), make([]api.Rat, m))
			if n != m && (e != api.ErrLength || !same(got, api.Rat{})) || n == m && e != api.OK {
				t.Fatalf("%d and %d: %v, %v", n, m, got, e)
			}
		}
	}
}

// Promise 5.1: Dot of each row.
func TestApply(t *testing.T) {
	d := dice(3)
	each(t, func(a [][]api.Rat, g grid) {
		x := d.list(g.columns, 9)
		for kind := range 2 {
			b := oddList(x, kind)
			stays(t, func() { wantList(t, "Apply", must[[]api.Rat](t)(solve.Apply(a, b)), g.applied(x)) }, [][]api.Rat{b})
		}
		if len(a) > 0 {
			wantError[api.Rat](t, api.ErrLength)(solve.Apply(a, make([]api.Rat, g.columns+1)))
		}
		if len(a) > 0 && g.columns > 0 {
			wantError[api.Rat](t, api.ErrLength)(solve.Apply(a, make([]api.Rat, g.columns-1)))
		}
	})
}

// Promise 5.1: of no rows nothing is asked of x; of rows of several lengths one does not fit, wherever it stands.
func TestApplyAtItsEdges(t *testing.T) {
	wantList(t, "Apply", must[[]api.Rat](t)(solve.Apply(nil, list(numbers("1 2")))), nil)
	wantList(t, "Apply", must[[]api.Rat](t)(solve.Apply(make([][]api.Rat, 2), nil)), numbers("0 0"))
	for _, a := range ragged() {
		for n := range 4 {
			wantError[api.Rat](t, api.ErrLength)(solve.Apply(a, make([]api.Rat, n)))
		}
	}
}

// Promise 5.1, of all that fit and all that do not.
func TestMul(t *testing.T) {
	for _, h := range samples() {
		each(t, func(a [][]api.Rat, g grid) {
			for _, b := range forms(h) {
				if g.columns != len(h.rows) {
					wantError[[]api.Rat](t, api.ErrLength)(solve.Mul(a, b))
				} else {
					want(t, "Mul", must[[][]api.Rat](t)(solve.Mul(a, b)), g.times(h))
				}
			}
		})
	}
}

// Promise 5.1: tables of no rows, or of no columns.
func TestMulAtItsEdges(t *testing.T) {
	none, rows, wide := [][]api.Rat(nil), make([][]api.Rat, 3), of("1 2 3", "4 5 6").table()
	want(t, "Mul", must[[][]api.Rat](t)(solve.Mul(none, none)), grid{})
	want(t, "Mul", must[[][]api.Rat](t)(solve.Mul(rows, none)), zeros(3, 0))
	want(t, "Mul", must[[][]api.Rat](t)(solve.Mul(wide, rows)), zeros(2, 0))
	wantError[[]api.Rat](t, api.ErrLength)(solve.Mul(none, wide))
	wantError[[]api.Rat](t, api.ErrLength)(solve.Mul(none, rows))
	wantError[[]api.Rat](t, api.ErrLength)(solve.Mul(wide, none))
	wantError[[]api.Rat](t, api.ErrLength)(solve.Mul(rows, rows))
}

// Promise 5.1: wrong inputs on both sides.
func TestMulOfWhatMayNotBe(t *testing.T) {
	for _, a := range ragged() {
		for n := range 4 {
			right := solve.Unit(n)
			wantError[[]api.Rat](t, api.ErrLength)(solve.Mul(a, right))
			wantError[[]api.Rat](t, api.ErrLength)(solve.Mul(right, a))
			wantError[[]api.Rat](t, api.ErrLength)(solve.Mul(make([][]api.Rat, n), a))
		}
		for _, b := range ragged() {
			wantError[[]api.Rat](t, api.ErrLength)(solve.Mul(a, b))
		}
	}
}

// Promise 5.1: the unit leaves all as it is, on both sides.
func TestMulByUnit(t *testing.T) {
	each(t, func(a [][]api.Rat, g grid) {
		if len(a) == 0 {
			return
		}
		want(t, "Mul", must[[][]api.Rat](t)(solve.Mul(a, solve.Unit(g.columns))), g)
		want(t, "Mul", must[[][]api.Rat](t)(solve.Mul(solve.Unit(len(a)), a)), g)
	})
}
