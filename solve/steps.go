package solve

import (
	"dendron/api"
	"dendron/ratio"
)

// Steps is a table in steps: each row's first number is a 1, further to the right than that of the row above, alone in its column; rows of 0 below; and the columns of the first numbers.
func Steps(a [][]api.Rat) ([][]api.Rat, []int, api.Errno) {
	if _, _, ok := Size(a); !ok {
		return nil, nil, api.ErrLength
	}
	t := stairs(a)
	t.up()
	return made(len(a), width(a), t.number), t.leaders, api.OK
}

// Rank is how many rows of a table in steps are not 0.
func Rank(a [][]api.Rat) (int, api.Errno) {
	if _, _, ok := Size(a); !ok {
		return 0, api.ErrLength
	}
	return len(stairs(a).leaders), api.OK
}

// Det is the determinant of a square table.
func Det(a [][]api.Rat) (api.Rat, api.Errno) {
	if !square(a) {
		return api.Rat{}, api.ErrLength
	}
	t := stairs(a)
	if !t.leads(len(a)) {
		return ratio.Zero(), api.OK
	}
	out := ratio.One()
	for i, row := range t.rows {
		out = ratio.Mul(out, ratio.Mul(row.by, row.numbers[i]))
	}
	if t.turned {
		return ratio.Neg(out), api.OK
	}
	return out, api.OK
}

// Inverse is the table that times a square one is the unit.
func Inverse(a [][]api.Rat) ([][]api.Rat, api.Errno) {
	if !square(a) {
		return nil, api.ErrLength
	}
	n := len(a)
	t := stairs(beside(a, Unit(n)))
	if !t.leads(n) {
		return nil, api.ErrZero
	}
	t.up()
	return made(n, n, func(i, j int) api.Rat { return t.number(i, n+j) }), api.OK
}

func square(a [][]api.Rat) bool {
	rows, columns, ok := Size(a)
	return ok && rows == columns
}

// table is a table on its way into steps: of its rows, as many as there are leaders' columns have theirs by now. It is turned, if rows have changed places an odd number of times.
type table struct {
	rows    []line
	leaders []int
	turned  bool
}

// stairs is a table that may be with its leaders found, whatever they are, and 0 below each; what is above them waits for up, since not all need it.
func stairs(a [][]api.Rat) *table {
	t := &table{rows: make([]line, len(a))}
	for i, row := range Copy(a) {
		t.rows[i] = line{numbers: row, by: ratio.One()}
		t.rows[i].shorten()
	}
	for column := range width(a) {
		if t.lift(column) {
			t.clear(t.rows[len(t.leaders):], len(t.leaders)-1)
		}
	}
	return t
}

// lift brings the first row without a leader that is not 0 in a column to where the next leader stands; false: there is none.
func (t *table) lift(column int) bool {
	to := len(t.leaders)
	for from := to; from < len(t.rows); from++ {
		if ratio.Sign(t.rows[from].numbers[column]) == 0 {
			continue
		}
		t.rows[to], t.rows[from] = t.rows[from], t.rows[to]
		t.turned = t.turned != (from != to)
		t.leaders = append(t.leaders, column)
		return true
	}
	return false
}

// up makes what is above the leaders 0. It begins with the last, whose row is 0 in the columns of all others: so each row is taken from those above when nothing is left in it but what stays.
func (t *table) up() {
	for i := len(t.leaders) - 1; i >= 0; i-- {
		t.clear(t.rows[:i], i)
	}
}

// clear takes so much of a leader's row from other rows that they are 0 in its column.
func (t *table) clear(rows []line, leader int) {
	from, column := t.rows[leader].numbers, t.leaders[leader]
	for i := range rows {
		if x := rows[i].numbers[column]; ratio.Sign(x) != 0 {
			times, _ := ratio.Div(x, from[column])
			rows[i].take(from, times)
		}
	}
}

// leads tells whether each of the first columns has a leader.
func (t *table) leads(columns int) bool {
	return columns == 0 || len(t.leaders) >= columns && t.leaders[columns-1] == columns-1
}

// number is that of a row and a column with the row's leader made 1; rows without one are 0 by now.
func (t *table) number(row, column int) api.Rat {
	if row >= len(t.leaders) {
		return ratio.Zero()
	}
	numbers := t.rows[row].numbers
	out, _ := ratio.Div(numbers[column], numbers[t.leaders[row]])
	return out
}
