package solve

import (
	"slices"

	"dendron/api"
	"dendron/ratio"
)

// Solve is x such that a x = b: of several that which is 0 in each column without a leader.
func Solve(a [][]api.Rat, b []api.Rat) ([]api.Rat, api.Errno) {
	rows, columns, ok := Size(a)
	if !ok || rows != len(b) {
		return nil, api.ErrLength
	}
	t := stairs(beside(a, upright(b)))
	if slices.Contains(t.leaders, columns) {
		return nil, api.ErrNone
	}
	return t.solution(columns), api.OK
}

// Kernel are rows of numbers that a table times is 0, and of which all others are sums: one for each column without a leader, rising.
func Kernel(a [][]api.Rat) ([][]api.Rat, api.Errno) {
	_, columns, ok := Size(a)
	if !ok {
		return nil, api.ErrLength
	}
	t := stairs(a)
	t.up()
	var out [][]api.Rat
	for column := range columns {
		if slices.Contains(t.leaders, column) {
			continue
		}
		x := t.ofLeaders(columns, func(row int) api.Rat { return ratio.Neg(t.number(row, column)) })
		x[column] = ratio.One()
		out = append(out, x)
	}
	return out, api.OK
}

// Least is x such that the sum of the squares of a x - b, each weighed, is least: the weights are not below 0; ErrZero: there are several.
//
// It is so where the slopes in all directions are 0: where the columns of a, each number weighed, times a x are what they are times b.
func Least(a [][]api.Rat, b, weights []api.Rat) ([]api.Rat, api.Errno) {
	rows, columns, ok := Size(a)
	switch {
	case !ok || rows != len(b) || rows != len(weights):
		return nil, api.ErrLength
	case slices.ContainsFunc(weights, func(w api.Rat) bool { return ratio.Sign(w) < 0 }):
		return nil, api.ErrRange
	}
	sides, _ := Flip(beside(a, upright(b)))
	weighed := made(columns, rows, func(i, j int) api.Rat { return ratio.Mul(sides[i][j], weights[j]) })
	t := stairs(made(columns, columns+1, func(i, j int) api.Rat { return dot(weighed[i], sides[j]) }))
	if !t.leads(columns) {
		return nil, api.ErrZero
	}
	return t.solution(columns), api.OK
}

// solution is x of equations whose right sides are the last column, which has no leader: 0 for each column without one.
func (t *table) solution(columns int) []api.Rat {
	t.up()
	return t.ofLeaders(columns, func(row int) api.Rat { return t.number(row, columns) })
}

// ofLeaders is a number for each column: a leader's by its row, all others 0.
func (t *table) ofLeaders(columns int, number func(row int) api.Rat) []api.Rat {
	out := list(columns, func(int) api.Rat { return ratio.Zero() })
	for row, column := range t.leaders {
		out[column] = number(row)
	}
	return out
}
