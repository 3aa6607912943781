package solve_test

import (
	"slices"
	"testing"

	"dendron/api"
	"dendron/solve"
)

// answers are all tables that the calls answer of two, those beside an error too; a list is a table of one row here, a number one of one.
func answers(a, b [][]api.Rat) [][][]api.Rat {
	out := [][][]api.Rat{solve.Copy(a), solve.Unit(len(a))}
	take := func(t [][]api.Rat, _ api.Errno) { out = append(out, t) }
	takeList := func(l []api.Rat, _ api.Errno) { out = append(out, [][]api.Rat{l}) }
	takeNumber := func(x api.Rat, _ api.Errno) { out = append(out, [][]api.Rat{{x}}) }
	var x, y []api.Rat
	if len(a) > 0 {
		x = a[0]
	}
	for i := range a {
		y = append(y, b[min(i, len(b)-1)][0])
	}
	takeNumber(solve.Dot(x, x))
	takeNumber(solve.Det(a))
	takeList(solve.Apply(a, x))
	takeList(solve.Solve(a, y))
	takeList(solve.Least(a, y, y))
	take(solve.Flip(a))
	take(solve.Mul(a, b))
	take(solve.Inverse(a))
	take(solve.Kernel(a))
	steps, _, e := solve.Steps(a)
	take(steps, e)
	return out
}

func few() [][][]api.Rat {
	var out [][][]api.Rat
	for _, g := range []grid{of("1"), of("0"), unit(2), of("1 2", "3 4"), of("1 2", "2 4"), of("1 2 3", "2 4 6"), of("1/2", "-3", "4294967297/5"), of("0 0 0", "0 1 2"), of("1 0 0", "0 0 1", "0 1 0")} {
		out = append(out, g.table(), g.oddTable(0), g.oddTable(1))
	}
	return append(out, [][]api.Rat{list(numbers("1 2")), list(numbers("3"))})
}

func cloned(a [][]api.Rat) [][]api.Rat {
	var out [][]api.Rat
	for _, row := range a {
		row = slices.Clone(row)
		for i, x := range row {
			row[i] = api.Rat{Num: api.Int{Neg: x.Num.Neg, Abs: slices.Clone(x.Num.Abs)}, Den: slices.Clone(x.Den)}
		}
		out = append(out, row)
	}
	return out
}

func writeOver(a [][]api.Rat) {
	for _, row := range a {
		row = row[:cap(row)]
		for i, x := range row {
			for _, limbs := range []api.Nat{x.Num.Abs[:cap(x.Num.Abs)], x.Den[:cap(x.Den)]} {
				for j := range limbs {
					limbs[j] = 1<<64 - 1
				}
			}
			row[i] = api.Rat{Num: api.Int{Neg: true}}
		}
	}
	clear(a[:cap(a)])
}

// Each answer has memory of its own: all of it is written over, number by number and row by row, and neither an argument nor another answer, nor another number of the same one, may tell.
func TestAnswersHaveTheirOwnMemory(t *testing.T) {
	for _, a := range few() {
		for _, b := range few() {
			c, d := cloned(a), cloned(b)
			got, right := answers(c, d), answers(a, b)
			for i, table := range got {
				for j, row := range table {
					for k := range row {
						if !same(row[k], right[i][j][k]) {
							t.Fatalf("answer %d of %v and %v: %v", i, a, b, table)
						}
						writeOver([][]api.Rat{row[k : k+1 : k+1]})
					}
					writeOver([][]api.Rat{row})
				}
				writeOver(table)
			}
			if !sameTable(a, c) || !sameTable(b, d) {
				t.Fatalf("arguments %v and %v have turned", a, b)
			}
			if !slices.EqualFunc(answers(c, d), right, sameTable) {
				t.Fatalf("answers of %v and %v hang on what became of the ones ahead", a, b)
			}
		}
	}
}

// The leaders' columns are a list of their own too.
func TestLeadersHaveTheirOwnMemory(t *testing.T) {
	a := of("0 1 2", "0 0 1").table()
	for range 2 {
		_, leaders, _ := solve.Steps(a)
		if !slices.Equal(leaders, []int{1, 2}) {
			t.Fatal(leaders)
		}
		leaders = leaders[:cap(leaders)]
		for i := range leaders {
			leaders[i] = -1
		}
	}
}

// What is appended to a row of an answer is written into no other one.
func TestRowsHaveNoRoomBehind(t *testing.T) {
	for _, a := range few() {
		for i, table := range answers(a, a) {
			for _, row := range table {
				if cap(row) != len(row) {
					t.Fatalf("answer %d of %v has room", i, a)
				}
			}
		}
	}
}

// One row in all places of a table: it is taken so often, and stays.
func TestOneRowTwice(t *testing.T) {
	row := oddList(numbers("2 0 -3"), 1)
	a := [][]api.Rat{row, row, row}
	stays(t, func() {
		if !slices.EqualFunc(answers(a, a), answers(solve.Copy(a), a), sameTable) {
			t.Fatal(a)
		}
		want(t, "Copy", solve.Copy(a), of("2 0 -3", "2 0 -3", "2 0 -3"))
		got, _, _ := solve.Steps(a)
		want(t, "Steps", got, of("1 0 -3/2", "0 0 0", "0 0 0"))
	}, a)
}
