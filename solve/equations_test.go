package solve_test

import (
	"math/big"
	"slices"
	"testing"

	"dendron/api"
	"dendron/ratio"
	"dendron/solve"
)

// Promise 5.3: right sides that some x makes, and any others; x is 0 without a leader.
func TestSolve(t *testing.T) {
	d := dice(9)
	each(t, func(a [][]api.Rat, g grid) {
		_, leaders := g.steps()
		for kind := range 4 {
			b := d.list(len(g.rows), 3)
			if kind > 0 {
				b = g.applied(d.list(g.columns, 9))
			}
			sides := oddList(b, kind)
			stays(t, func() {
				x, e := solve.Solve(a, sides)
				if len(g.rows) > 0 && g.beside(b).rank() > len(leaders) {
					wantError[api.Rat](t, api.ErrNone)(x, e)
					return
				}
				wantSolution(t, g, b, leaders, must[[]api.Rat](t)(x, e))
			}, [][]api.Rat{sides})
		}
	})
}

func wantSolution(t *testing.T, g grid, b []*big.Rat, leaders []int, x []api.Rat) {
	t.Helper()
	if len(x) != g.columns {
		t.Fatalf("%v: %v", g, ratio.Texts(x))
	}
	var right []*big.Rat
	for j, y := range x {
		right = append(right, numbers(ratio.Print(y))...)
		if !slices.Contains(leaders, j) && ratio.Sign(y) != 0 {
			t.Fatalf("%v: %v", g, ratio.Texts(x))
		}
	}
	wantList(t, "x", x, right)
	wantList(t, "a x", list(g.applied(right)), b)
}

// Example 2, and others by hand.
func TestSolveByHand(t *testing.T) {
	for _, c := range []struct {
		a    grid
		b, x string
	}{{of("1 1", "1 -1"), "3 1", "2 1"}, {of("2 4"), "6", "3 0"}, {of("0 4 8"), "6", "0 3/2 0"}, {of("1 2 0 3", "0 0 1 4"), "5 6", "5 0 6 0"}, {of("1", "2", "3"), "1/2 1 3/2", "1/2"}, {of("0"), "0", "0"}, {zeros(2, 3), "0 0", "0 0 0"}} {
		got := must[[]api.Rat](t)(solve.Solve(c.a.table(), list(numbers(c.b))))
		wantList(t, "Solve", got, numbers(c.x))
	}
	for _, c := range []struct {
		a grid
		b string
	}{{of("0"), "1"}, {of("1 2", "2 4"), "1 1"}, {zeros(2, 2), "0 1"}, {of("1", "1"), "1 2"}, {of("1 0", "0 1", "1 1"), "1 1 3"}} {
		wantError[api.Rat](t, api.ErrNone)(solve.Solve(c.a.table(), list(numbers(c.b))))
	}
}

// Promise 5.3: no rows, rows of none.
func TestSolveAtItsEdges(t *testing.T) {
	wantList(t, "Solve", must[[]api.Rat](t)(solve.Solve(nil, nil)), nil)
	wantList(t, "Solve", must[[]api.Rat](t)(solve.Solve(make([][]api.Rat, 2), make([]api.Rat, 2))), nil)
	wantError[api.Rat](t, api.ErrNone)(solve.Solve(make([][]api.Rat, 2), list(numbers("0 1"))))
}

// Promise 5.3: wrong inputs; lengths are told ahead of what cannot be solved.
func TestSolveWrongLengths(t *testing.T) {
	for _, a := range ragged() {
		for n := range 5 {
			wantError[api.Rat](t, api.ErrLength)(solve.Solve(a, make([]api.Rat, n)))
		}
	}
	d := dice(10)
	for _, g := range samples() {
		for n := range 7 {
			if n != len(g.rows) {
				wantError[api.Rat](t, api.ErrLength)(solve.Solve(g.table(), list(d.list(n, 9))))
			}
		}
	}
}

// Promise 5.3.
func TestKernel(t *testing.T) {
	each(t, func(a [][]api.Rat, g grid) {
		_, leaders := g.steps()
		got := must[[][]api.Rat](t)(solve.Kernel(a))
		at := 0
		for j := range g.columns {
			if len(g.rows) == 0 || slices.Contains(leaders, j) {
				continue
			}
			if at >= len(got) {
				t.Fatalf("%v:\n%s", g, shown(got))
			}
			x := got[at]
			at++
			for k, y := range x {
				if k == j && !same(y, ratio.One()) || k != j && !slices.Contains(leaders, k) && !same(y, ratio.Zero()) {
					t.Fatalf("%v:\n%s", g, shown(got))
				}
			}
			wantList(t, "a x", must[[]api.Rat](t)(solve.Apply(a, x)), zeros(1, len(a)).rows[0])
			if !sameTable([][]api.Rat{x}, solve.Copy([][]api.Rat{x})) {
				t.Fatal(x)
			}
		}
		if at != len(got) {
			t.Fatalf("%v:\n%s", g, shown(got))
		}
	})
}

// Promise 5.3: by hand, and wrong inputs.
func TestKernelAtItsEdges(t *testing.T) {
	for _, c := range []struct{ a, x grid }{{of("1 2 3", "2 4 6"), of("-2 1 0", "-3 0 1")}, {zeros(1, 2), unit(2)}, {unit(4), grid{}}, {grid{}, grid{}}, {zeros(2, 0), grid{}}, {of("0 2 0 4 6"), of("1 0 0 0 0", "0 0 1 0 0", "0 -2 0 1 0", "0 -3 0 0 1")}} {
		want(t, "Kernel", must[[][]api.Rat](t)(solve.Kernel(c.a.table())), c.x)
	}
	for _, a := range ragged() {
		wantError[[]api.Rat](t, api.ErrLength)(solve.Kernel(a))
	}
}

// distance is the sum of weight times the square of (a x - b).
func distance(g grid, b, weights, x []*big.Rat) *big.Rat {
	out := new(big.Rat)
	for i, y := range g.applied(x) {
		y.Sub(y, b[i])
		out.Add(out, y.Mul(y, new(big.Rat).Mul(y, weights[i])))
	}
	return out
}

// some are the rows of a weight above 0.
func (g grid) some(weights []*big.Rat) grid {
	out := grid{columns: g.columns}
	for i, row := range g.rows {
		if weights[i].Sign() > 0 {
			out.rows = append(out.rows, row)
		}
	}
	return out
}

func (d *dice) weights(n int) []*big.Rat {
	out := d.list(n, 6)
	for _, x := range out {
		x.Abs(x)
		if d.below(4) == 0 {
			x.SetInt64(0)
		}
	}
	return out
}

// Promise 5.4: ErrZero just where rows that count leave several; else no x near by, in any direction, is as good. The sum of squares has no other valley, so that tells it.
func TestLeast(t *testing.T) {
	d := dice(11)
	each(t, func(a [][]api.Rat, g grid) {
		for kind := range 4 {
			b, weights := d.list(len(g.rows), 9), d.weights(len(g.rows))
			sides, counts := oddList(b, kind), oddList(weights, kind+1)
			stays(t, func() {
				x, e := solve.Least(a, sides, counts)
				if len(g.rows) > 0 && g.some(weights).rank() < g.columns {
					wantError[api.Rat](t, api.ErrZero)(x, e)
					return
				}
				wantLeast(t, &d, g, b, weights, must[[]api.Rat](t)(x, e))
			}, [][]api.Rat{sides, counts})
		}
	})
}

func wantLeast(t *testing.T, d *dice, g grid, b, weights []*big.Rat, x []api.Rat) {
	t.Helper()
	if len(g.rows) > 0 && len(x) != g.columns {
		t.Fatalf("%v: %v", g, x)
	}
	if len(x) == 0 {
		return
	}
	var at []*big.Rat
	for _, y := range x {
		at = append(at, numbers(ratio.Print(y))...)
	}
	wantList(t, "x", x, at)
	least := distance(g, b, weights, at)
	tiny := new(big.Rat).SetFrac(big.NewInt(1), new(big.Int).Lsh(big.NewInt(1), 300))
	for k := range 2*len(x) + 4 {
		way := d.list(len(x), 5)
		if k < 2*len(x) {
			way = unit(len(x)).rows[k/2]
			way[k/2].SetInt64(int64(k%2*2 - 1))
		}
		if dot(way, way).Sign() != 0 && distance(g, b, weights, less(at, way, tiny)).Cmp(least) <= 0 {
			t.Fatalf("%v\nfor %s, weights %s: %s is not the least", g, texts(b), texts(weights), texts(at))
		}
	}
}

// Promise 5.4: a line through points, a mean, what is solved anyway; rows that do not count may say anything.
func TestLeastByHand(t *testing.T) {
	for _, c := range []struct {
		a             grid
		b, weights, x string
	}{
		{of("1", "1"), "0 3", "1 2", "2"},
		{of("1", "1", "1"), "1 2 6", "1 1 1", "3"},
		{of("1 0", "1 1", "1 2"), "1 3 3", "1 1 1", "4/3 1"},
		{of("1 1", "1 -1"), "3 1", "5 1/7", "2 1"},
		{of("2"), "3", "1/9", "3/2"},
		{of("1", "0", "8"), "5 77 99", "1 1 0", "5"},
		{of("1 0", "0 1", "7 9"), "1 2 3", "1 1 0", "1 2"},
	} {
		got := must[[]api.Rat](t)(solve.Least(c.a.table(), list(numbers(c.b)), list(numbers(c.weights))))
		wantList(t, "Least", got, numbers(c.x))
	}
}

// Promise 5.4: what the rows that count make exactly is found, whatever they weigh.
func TestLeastOfWhatIsSolved(t *testing.T) {
	d := dice(12)
	for range 40 {
		n := 1 + d.below(4)
		g, x := d.grid(n+d.below(4), n, 9), d.list(n, 9)
		weights := d.weights(len(g.rows))
		if g.some(weights).rank() == n {
			got := must[[]api.Rat](t)(solve.Least(g.table(), list(g.applied(x)), list(weights)))
			wantList(t, "Least", got, x)
		}
	}
}

// Promise 5.4: no rows and no columns have the one x of no numbers; weights 0 leave all as good.
func TestLeastAtItsEdges(t *testing.T) {
	wantList(t, "Least", must[[]api.Rat](t)(solve.Least(nil, nil, nil)), nil)
	wantList(t, "Least", must[[]api.Rat](t)(solve.Least(make([][]api.Rat, 2), list(numbers("1 2")), list(numbers("0 3")))), nil)
	wantError[api.Rat](t, api.ErrZero)(solve.Least(of("1", "1").table(), list(numbers("0 3")), list(numbers("0 0"))))
	wantError[api.Rat](t, api.ErrZero)(solve.Least(of("1", "1").table(), list(numbers("0 3")), make([]api.Rat, 2)))
	wantError[api.Rat](t, api.ErrZero)(solve.Least(of("0").table(), list(numbers("0")), list(numbers("1"))))
	wantError[api.Rat](t, api.ErrZero)(solve.Least(of("1 2").table(), list(numbers("0")), list(numbers("1"))))
	wantError[api.Rat](t, api.ErrZero)(solve.Least(of("1 2", "2 4", "0 1").table(), list(numbers("1 2 3")), list(numbers("1 1 0"))))
}

// Promise 5.4: wrong inputs, in their order: lengths, a weight below 0, several as good.
func TestLeastErrors(t *testing.T) {
	low := func(n int) []api.Rat { return append([]api.Rat{ratio.Of(-1)}, make([]api.Rat, max(1, n)-1)...)[:n] }
	for _, a := range ragged() {
		wantError[api.Rat](t, api.ErrLength)(solve.Least(a, make([]api.Rat, len(a)), low(len(a))))
	}
	for _, g := range samples() {
		for n := range 7 {
			for m := range 7 {
				if n != len(g.rows) || m != len(g.rows) {
					wantError[api.Rat](t, api.ErrLength)(solve.Least(g.table(), make([]api.Rat, n), low(m)))
				}
			}
		}
		rows := len(g.rows)
		for i := range rows {
			weights := oddList(zeros(1, rows).rows[0], 0)
			weights[i] = odd(big.NewRat(-1, 1<<40), i)
			wantError[api.Rat](t, api.ErrRange)(solve.Least(g.table(), make([]api.Rat, rows), weights))
		}
	}
	minus := []api.Rat{{Num: api.Int{Neg: true, Abs: api.Nat{5}}}, ratio.One()}
	wantList(t, "Least", must[[]api.Rat](t)(solve.Least(of("1", "2").table(), list(numbers("9 8")), minus)), numbers("4"))
}

// Promise 5.4: as many rows as there are coalitions of twelve, in time.
func TestLeastOfManyRows(t *testing.T) {
	d := dice(13)
	var a [][]api.Rat
	var b, weights []api.Rat
	x := d.list(11, 9)
	for s := 1; s < 1<<12-1; s++ {
		row := zeros(1, 11).rows[0]
		for i := range row {
			row[i].SetInt64(int64(s>>i&1 - s>>11))
		}
		a = append(a, list(row))
		b = append(b, ofBig(dot(row, x)))
		weights = append(weights, ratio.Frac(1, 1+d.below(12)))
	}
	wantList(t, "Least", must[[]api.Rat](t)(solve.Least(a, b, weights)), x)
}
