package solve_test

import (
	"math/big"
	"slices"
	"testing"

	"dendron/api"
	"dendron/ratio"
	"dendron/solve"
)

func (g grid) square() bool {
	return len(g.rows) == g.columns
}

// wantSteps asks for each word of what a table in steps is.
func wantSteps(t *testing.T, a [][]api.Rat, leaders []int) {
	t.Helper()
	for i, row := range a {
		first := slices.IndexFunc(row, func(x api.Rat) bool { return ratio.Sign(x) != 0 })
		if i >= len(leaders) {
			if first >= 0 {
				t.Fatalf("row %d is not 0:\n%s", i, shown(a))
			}
			continue
		}
		if first != leaders[i] || !ratio.Same(row[first], ratio.One()) || i > 0 && leaders[i-1] >= first {
			t.Fatalf("row %d of leaders %v:\n%s", i, leaders, shown(a))
		}
		for k, other := range a {
			if k != i && ratio.Sign(other[first]) != 0 {
				t.Fatalf("leader %d is not alone:\n%s", i, shown(a))
			}
		}
	}
}

// Promise 5.2: it is in steps, and the one that comes of clearing above and below each leader at once.
func TestSteps(t *testing.T) {
	each(t, func(a [][]api.Rat, g grid) {
		got, leaders, e := solve.Steps(a)
		if e != api.OK {
			t.Fatal(e)
		}
		wantSteps(t, got, leaders)
		right, columns := g.steps()
		want(t, "Steps", got, right)
		if !slices.Equal(leaders, columns) {
			t.Fatalf("leaders of\n%v\n%v, not %v", g, leaders, columns)
		}
		again, same, _ := solve.Steps(got)
		want(t, "Steps of Steps", again, right)
		if !slices.Equal(same, leaders) {
			t.Fatal(same)
		}
	})
}

// Promise 5.2: each row of the table is the sum of those in steps, so many times as it says in their leaders' columns; and the rows in steps bring no more.
func TestStepsMakeTheSameSums(t *testing.T) {
	d := dice(4)
	for range 60 {
		g := d.low(1+d.below(6), 1+d.below(7), 1+d.below(4))
		got, leaders, _ := solve.Steps(g.oddTable(d.below(3)))
		s := grid{columns: g.columns}
		for i := range got {
			s.rows = append(s.rows, nil)
			for _, x := range got[i] {
				s.rows[i] = append(s.rows[i], numbers(ratio.Print(x))...)
			}
		}
		for _, row := range g.rows {
			sum := zeros(1, g.columns).rows[0]
			for i, column := range leaders {
				sum = less(sum, s.rows[i], new(big.Rat).Neg(row[column]))
			}
			wantList(t, "sum", list(sum), row)
		}
		both := grid{rows: slices.Concat(g.rows, s.rows), columns: g.columns}
		if both.rank() != len(leaders) {
			t.Fatalf("%v\nin steps\n%v", g, s)
		}
	}
}

// Promise 5.2: rows in another order, or added to one another, or multiplied, come to the same steps.
func TestStepsAreTheOnlyOnes(t *testing.T) {
	d := dice(5)
	for range 40 {
		g := d.low(3, 5, 2)
		turned := grid{rows: [][]*big.Rat{g.rows[2], less(g.rows[0], g.rows[1], big.NewRat(-7, 3)), less(g.rows[1], g.rows[2], big.NewRat(5, 2))}, columns: 5}
		turned.rows[0] = less(make([]*big.Rat, 5), turned.rows[0], big.NewRat(-9, 11))
		got, leaders, _ := solve.Steps(g.table())
		other, same, _ := solve.Steps(turned.table())
		if !sameTable(got, other) || !slices.Equal(leaders, same) {
			t.Fatalf("%v\nand\n%v:\n%s\nand\n%s", g, turned, shown(got), shown(other))
		}
	}
}

// Promise 5.2.
func TestRank(t *testing.T) {
	each(t, func(a [][]api.Rat, g grid) {
		if n := must[int](t)(solve.Rank(a)); n != g.rank() {
			t.Fatalf("%v: %d", g, n)
		}
	})
	for n := range 5 {
		if got := must[int](t)(solve.Rank(solve.Unit(n))); got != n {
			t.Fatal(n, got)
		}
	}
}

// Promise 5.2: held against the determinants of what is left without a row and a column.
func TestDet(t *testing.T) {
	each(t, func(a [][]api.Rat, g grid) {
		got, e := solve.Det(a)
		if !g.square() {
			if e != api.ErrLength || !same(got, api.Rat{}) {
				t.Fatalf("%v: %v, %v", g, got, e)
			}
			return
		}
		wantNumber(t, "Det", must[api.Rat](t)(got, e), g.det())
	})
	d := dice(6)
	for range 150 {
		n := d.below(6)
		g := d.grid(n, n, 7)
		wantNumber(t, "Det", must[api.Rat](t)(solve.Det(g.table())), g.det())
	}
}

// Example 1, and the determinant of none.
func TestDetAtItsEdges(t *testing.T) {
	for _, c := range []struct {
		g   grid
		det string
	}{{of("1 2", "3 4"), "-2"}, {grid{}, "1"}, {unit(9), "1"}, {of("0"), "0"}, {of("-7/3"), "-7/3"}, {of("0 1", "1 0"), "-1"}, {of("0 1 0", "0 0 1", "1 0 0"), "1"}, {of("0 0 1", "0 1 0", "1 0 0"), "-1"}, {of("0 2", "0 3"), "0"}, {of("1/2 0", "0 2/3"), "1/3"}} {
		wantNumber(t, "Det", must[api.Rat](t)(solve.Det(c.g.table())), numbers(c.det)[0])
	}
}

// Promise 5.2: of each order of the unit's rows it is 1 or -1, as so many rows stand ahead of lesser ones.
func TestDetOfOrders(t *testing.T) {
	var order func(l, left []int)
	order = func(l, left []int) {
		for i, x := range left {
			order(append(slices.Clone(l), x), slices.Concat(left[:i], left[i+1:]))
		}
		if len(left) > 0 {
			return
		}
		a, sign := make([][]api.Rat, len(l)), int64(1)
		for i, x := range l {
			a[i] = solve.Unit(len(l))[x]
			for _, y := range l[i+1:] {
				if y < x {
					sign = -sign
				}
			}
		}
		wantNumber(t, "Det", must[api.Rat](t)(solve.Det(a)), big.NewRat(sign, 1))
	}
	order(nil, []int{0, 1, 2, 3, 4})
}

// Promise 5.2: of a product it is the product; of a greater table, in time.
func TestDetOfProducts(t *testing.T) {
	d := dice(7)
	for _, n := range []int{3, 8, 32} {
		a, b := d.grid(n, n, 9).table(), d.grid(n, n, 9).table()
		x, y := must[api.Rat](t)(solve.Det(a)), must[api.Rat](t)(solve.Det(b))
		both := must[[][]api.Rat](t)(solve.Mul(a, b))
		if got := must[api.Rat](t)(solve.Det(both)); !same(got, ratio.Mul(x, y)) || ratio.Sign(got) == 0 {
			t.Fatal(n, ratio.Print(got))
		}
	}
}

// Promise 5.2: an inverse, just where the determinant is not 0.
func TestInverse(t *testing.T) {
	each(t, func(a [][]api.Rat, g grid) {
		got, e := solve.Inverse(a)
		switch {
		case !g.square():
			wantError[[]api.Rat](t, api.ErrLength)(got, e)
		case g.det().Sign() == 0:
			wantError[[]api.Rat](t, api.ErrZero)(got, e)
		default:
			wantInverse(t, a, must[[][]api.Rat](t)(got, e))
		}
	})
	want(t, "Inverse", must[[][]api.Rat](t)(solve.Inverse(of("1 2", "3 4").table())), of("-2 1", "3/2 -1/2"))
	want(t, "Inverse", must[[][]api.Rat](t)(solve.Inverse(nil)), grid{})
}

func wantInverse(t *testing.T, a, inverse [][]api.Rat) {
	t.Helper()
	for _, l := range [][2][][]api.Rat{{a, inverse}, {inverse, a}} {
		want(t, "product", must[[][]api.Rat](t)(solve.Mul(l[0], l[1])), unit(len(a)))
	}
	if !sameTable(inverse, solve.Copy(inverse)) {
		t.Fatal(inverse)
	}
}

// Promise 5.2: greater ones, and Hilbert's, whose inverse is of whole numbers.
func TestInverseOfGreaterOnes(t *testing.T) {
	d := dice(8)
	wide := d.grid(16, 16, 9).table()
	wantInverse(t, wide, must[[][]api.Rat](t)(solve.Inverse(wide)))
	hilbert := zeros(12, 12)
	for i, row := range hilbert.rows {
		for j := range row {
			row[j].SetFrac64(1, int64(i+j+1))
		}
	}
	got := must[[][]api.Rat](t)(solve.Inverse(hilbert.table()))
	wantInverse(t, hilbert.table(), got)
	for _, row := range got {
		for _, x := range row {
			if len(x.Den) != 1 || x.Den[0] != 1 {
				t.Fatal(shown(got))
			}
		}
	}
}

// Promise 5.2: wrong inputs.
func TestStepsOfWhatMayNotBe(t *testing.T) {
	for _, a := range ragged() {
		got, leaders, e := solve.Steps(a)
		wantError[[]api.Rat](t, api.ErrLength)(got, e)
		wantError[int](t, api.ErrLength)(leaders, e)
		if n, e := solve.Rank(a); n != 0 || e != api.ErrLength {
			t.Fatal(n, e)
		}
		if x, e := solve.Det(a); !same(x, api.Rat{}) || e != api.ErrLength {
			t.Fatal(x, e)
		}
		wantError[[]api.Rat](t, api.ErrLength)(solve.Inverse(a))
	}
}
