package solve_test

import (
	"math/big"
	"slices"
	"strings"
	"testing"

	"dendron/api"
	"dendron/ratio"
	"dendron/solve"
)

// dice gives the same numbers on every run.
type dice uint64

func (d *dice) next() uint64 {
	*d = *d*6364136223846793005 + 1442695040888963407
	return uint64(*d) >> 16
}

func (d *dice) below(n int) int {
	return int(d.next() % uint64(n))
}

func (d *dice) number(most int) *big.Rat {
	return big.NewRat(int64(d.below(2*most+1)-most), int64(1+d.below(most)))
}

// grid is a table as the tests reckon with it; its columns are told apart from its rows, so that there may be rows of none.
type grid struct {
	rows    [][]*big.Rat
	columns int
}

// grid is one with many numbers 0.
func (d *dice) grid(rows, columns, most int) grid {
	out := zeros(rows, columns)
	for _, row := range out.rows {
		for j := range row {
			if d.below(3) > 0 {
				row[j] = d.number(most)
			}
		}
	}
	return out
}

// low is one of at most a rank.
func (d *dice) low(rows, columns, rank int) grid {
	return d.grid(rows, rank, 5).times(d.grid(rank, columns, 5))
}

func (d *dice) list(n, most int) []*big.Rat {
	var out []*big.Rat
	for range n {
		out = append(out, d.number(most))
	}
	return out
}

func zeros(rows, columns int) grid {
	out := grid{columns: columns}
	for range rows {
		row := make([]*big.Rat, columns)
		for j := range row {
			row[j] = new(big.Rat)
		}
		out.rows = append(out.rows, row)
	}
	return out
}

func unit(n int) grid {
	out := zeros(n, n)
	for i := range n {
		out.rows[i][i].SetInt64(1)
	}
	return out
}

func numbers(text string) []*big.Rat {
	var out []*big.Rat
	for _, s := range strings.Fields(text) {
		x, ok := new(big.Rat).SetString(s)
		if !ok {
			panic("no number: " + s)
		}
		out = append(out, x)
	}
	return out
}

// of is a table by its rows' texts.
func of(rows ...string) grid {
	var out grid
	for _, text := range rows {
		out.rows = append(out.rows, numbers(text))
		out.columns = len(out.rows[0])
	}
	return out
}

func (g grid) flipped() grid {
	out := zeros(g.columns, len(g.rows))
	for i, row := range g.rows {
		for j, x := range row {
			out.rows[j][i] = x
		}
	}
	return out
}

func dot(a, b []*big.Rat) *big.Rat {
	out := new(big.Rat)
	for i, x := range a {
		out.Add(out, new(big.Rat).Mul(x, b[i]))
	}
	return out
}

func (g grid) times(h grid) grid {
	out := zeros(len(g.rows), h.columns)
	for i, row := range g.rows {
		for j := range out.columns {
			for k, x := range row {
				out.rows[i][j].Add(out.rows[i][j], new(big.Rat).Mul(x, h.rows[k][j]))
			}
		}
	}
	return out
}

func (g grid) applied(x []*big.Rat) []*big.Rat {
	var out []*big.Rat
	for _, row := range g.rows {
		out = append(out, dot(row, x))
	}
	return out
}

// beside is a table with one more column.
func (g grid) beside(b []*big.Rat) grid {
	out := grid{columns: g.columns + 1}
	for i, row := range g.rows {
		out.rows = append(out.rows, append(slices.Clone(row), b[i]))
	}
	return out
}

// det is the determinant by the first row and what is left without it, which shares nothing with steps.
func (g grid) det() *big.Rat {
	if len(g.rows) == 0 {
		return big.NewRat(1, 1)
	}
	out := new(big.Rat)
	for j, x := range g.rows[0] {
		if x.Sign() == 0 {
			continue
		}
		rest := grid{columns: g.columns - 1}
		for _, row := range g.rows[1:] {
			rest.rows = append(rest.rows, slices.Concat(row[:j], row[j+1:]))
		}
		part := new(big.Rat).Mul(x, rest.det())
		if j%2 != 0 {
			part.Neg(part)
		}
		out.Add(out, part)
	}
	return out
}

// steps is a table in steps and its leaders' columns, each leader made 1 as it is found and cleared above and below.
func (g grid) steps() (grid, []int) {
	out, leaders := g.flipped().flipped(), []int(nil)
	if len(g.rows) == 0 || g.columns == 0 {
		return g, nil
	}
	for j := range g.columns {
		at := len(leaders)
		i := slices.IndexFunc(out.rows[at:], func(row []*big.Rat) bool { return row[j].Sign() != 0 })
		if i < 0 {
			continue
		}
		lead := out.rows[at+i]
		out.rows[at+i] = out.rows[at]
		by := new(big.Rat).Inv(lead[j])
		for k, row := range out.rows {
			if k != at {
				out.rows[k] = less(row, lead, new(big.Rat).Mul(row[j], by))
			}
		}
		out.rows[at] = less(make([]*big.Rat, g.columns), lead, new(big.Rat).Neg(by))
		leaders = append(leaders, j)
	}
	return out, leaders
}

// less is a row less so many times another one; nil is 0.
func less(row, other []*big.Rat, by *big.Rat) []*big.Rat {
	out := make([]*big.Rat, len(row))
	for i, x := range other {
		out[i] = new(big.Rat).Neg(new(big.Rat).Mul(x, by))
		if row[i] != nil {
			out[i].Add(out[i], row[i])
		}
	}
	return out
}

func (g grid) rank() int {
	_, leaders := g.steps()
	return len(leaders)
}

func (g grid) String() string {
	var out []string
	for _, row := range g.rows {
		out = append(out, texts(row))
	}
	return strings.Join(out, "\n")
}

func texts(l []*big.Rat) string {
	var out []string
	for _, x := range l {
		out = append(out, x.RatString())
	}
	return "(" + strings.Join(out, " ") + ")"
}

// samples are tables of all shapes: of no rows, of rows of none, of 0, of a rank below both, with columns of 0 between, with long numbers.
func samples() []grid {
	out := []grid{{}, zeros(1, 0), zeros(3, 0), zeros(1, 1), zeros(2, 3), of("1"), of("-5/3"), of("1 2", "3 4"), of("2 1", "1 3"), of("1 2 3", "2 4 6"), of("0 1", "1 0"), of("0 0 1", "0 1 0", "1 0 0"),
		of("0 0 2 4", "0 0 1 3", "0 0 0 0"), of("0 1 2", "0 0 0", "0 2 4", "0 0 7"), of("1 1", "1 1", "1 1"), of("1/2 1/3", "1/4 1/6"), of("1/2 1/3", "1/4 1/5"),
		of("18446744073709551616 -1/18446744073709551616", "4294967296/3 4294967295"), of("6/4294967297 4/4294967297", "-3/65536 -2/65536"), unit(3)}
	d := dice(1)
	for _, shape := range [][3]int{{1, 4, 1}, {4, 1, 1}, {2, 2, 1}, {3, 3, 2}, {3, 3, 3}, {4, 4, 3}, {4, 4, 4}, {5, 3, 2}, {3, 5, 2}, {5, 5, 4}, {4, 6, 4}} {
		out = append(out, d.low(shape[0], shape[1], shape[2]), d.grid(shape[0], shape[1], 9))
	}
	return append(out, d.grid(3, 3, 1<<40))
}

func limbs(x *big.Int) api.Nat {
	out := make(api.Nat, (x.BitLen()+31)/32)
	bytes := x.Bytes()
	for i, b := range bytes {
		at := len(bytes) - 1 - i
		out[at/4] |= uint64(b) << (at % 4 * 8)
	}
	return out
}

func ofBig(x *big.Rat) api.Rat {
	return api.Rat{Num: api.Int{Neg: x.Sign() < 0, Abs: limbs(x.Num())}, Den: limbs(x.Denom())}
}

func list(l []*big.Rat) []api.Rat {
	var out []api.Rat
	for _, x := range l {
		out = append(out, ofBig(x))
	}
	return out
}

func (g grid) table() [][]api.Rat {
	var out [][]api.Rat
	for _, row := range g.rows {
		out = append(out, list(row))
	}
	return out
}

// soiled are limbs that may not be, of the same number: bits above the 32nd, zeros on top.
func soiled(a api.Nat) api.Nat {
	var out api.Nat
	for i, l := range a {
		out = append(out, l|uint64(i+1)<<32)
	}
	return append(out, 0, 5<<32)
}

// room are limbs with memory behind their end that must stay.
func room(l api.Nat) api.Nat {
	return append(slices.Clone(l), 77, 88, 99)[:len(l)]
}

// odd is a number in a form that may not be: the parts have a divisor, bits above the 32nd, zeros on top; 0 has a Den 0, or none, or a sign.
func odd(x *big.Rat, kind int) api.Rat {
	if x.Sign() == 0 {
		return []api.Rat{{}, {Num: api.Int{Neg: true, Abs: room(api.Nat{7})}, Den: api.Nat{1 << 32, 0}}, {Num: api.Int{Neg: true}, Den: room(api.Nat{6})}}[kind%3]
	}
	by := big.NewInt(6 << 40)
	num, den := limbs(new(big.Int).Mul(x.Num(), by)), limbs(new(big.Int).Mul(x.Denom(), by))
	if kind%2 == 0 {
		num, den = soiled(num), soiled(den)
	}
	return api.Rat{Num: api.Int{Neg: x.Sign() < 0, Abs: room(num)}, Den: room(den)}
}

// oddList are numbers that may not be, with memory behind the end that must stay.
func oddList(l []*big.Rat, kind int) []api.Rat {
	var out []api.Rat
	for i, x := range l {
		out = append(out, odd(x, kind+i))
	}
	return append(out, ratio.Of(7), ratio.Frac(-8, 9))[:len(l)]
}

func (g grid) oddTable(kind int) [][]api.Rat {
	var out [][]api.Rat
	for i, row := range g.rows {
		out = append(out, oddList(row, kind+i))
	}
	return append(out, list(numbers("7 8")), nil)[:len(out)]
}

// forms are what the tests hand in as one table: as it may be, and with numbers that may not be.
func forms(g grid) [][][]api.Rat {
	out := [][][]api.Rat{g.table(), g.oddTable(0), g.oddTable(1)}
	if len(g.rows) == 0 {
		out = append(out, nil, [][]api.Rat{})
	}
	return out
}

// memory is all that lies in a table, behind its end, its rows' ends and its numbers' ends too.
func memory(a [][]api.Rat) [][]api.Rat {
	var out [][]api.Rat
	for _, row := range a[:cap(a)] {
		var keep []api.Rat
		for _, x := range row[:cap(row)] {
			keep = append(keep, api.Rat{Num: api.Int{Neg: x.Num.Neg, Abs: slices.Clone(x.Num.Abs[:cap(x.Num.Abs)])}, Den: slices.Clone(x.Den[:cap(x.Den)])})
		}
		out = append(out, keep)
	}
	return out
}

// stays looks, when the test is done, whether arguments are as they were.
func stays(t *testing.T, test func(), tables ...[][]api.Rat) {
	t.Helper()
	var keep [][][]api.Rat
	for _, a := range tables {
		keep = append(keep, memory(a))
	}
	test()
	for i, a := range tables {
		if !sameTable(keep[i], memory(a)) {
			t.Fatalf("argument %d has changed: %v", i, a)
		}
	}
}

// each hands all samples, in all forms, to a test, and looks whether they stay as they are.
func each(t *testing.T, test func(a [][]api.Rat, g grid)) {
	t.Helper()
	for _, g := range samples() {
		for _, a := range forms(g) {
			stays(t, func() { test(a, g) }, a)
		}
	}
}

// ragged are tables that may not be.
func ragged() [][][]api.Rat {
	one, two, three := list(numbers("1")), list(numbers("1 2")), list(numbers("0 0 0"))
	return [][][]api.Rat{{one, two}, {two, one}, {nil, one}, {one, nil}, {two, two, three}, {three, two, three}, {three, three, nil}, {nil, nil, one}}
}

// same tells whether a number is just as it has to be: its sign, its limbs, none more.
func same(a, b api.Rat) bool {
	return a.Num.Neg == b.Num.Neg && slices.Equal(a.Num.Abs, b.Num.Abs) && slices.Equal(a.Den, b.Den)
}

func sameList(a, b []api.Rat) bool {
	return slices.EqualFunc(a, b, same)
}

func sameTable(a, b [][]api.Rat) bool {
	return slices.EqualFunc(a, b, sameList)
}

func shown(a [][]api.Rat) string {
	var out []string
	for _, row := range a {
		out = append(out, "("+strings.Join(ratio.Texts(row), " ")+")")
	}
	return strings.Join(out, "\n")
}

func want(t *testing.T, what string, got [][]api.Rat, g grid) {
	t.Helper()
	if !sameTable(got, g.table()) {
		t.Fatalf("%s:\n%s\nnot\n%v", what, shown(got), g)
	}
}

func wantList(t *testing.T, what string, got []api.Rat, l []*big.Rat) {
	t.Helper()
	if !sameList(got, list(l)) {
		t.Fatalf("%s: %v, not %s", what, ratio.Texts(got), texts(l))
	}
}

func wantNumber(t *testing.T, what string, got api.Rat, x *big.Rat) {
	t.Helper()
	if !same(got, ofBig(x)) {
		t.Fatalf("%s: %v, not %s", what, got, x.RatString())
	}
}

func must[T any](t *testing.T) func(got T, e api.Errno) T {
	return func(got T, e api.Errno) T {
		t.Helper()
		if e != api.OK {
			t.Fatal(e)
		}
		return got
	}
}

// wantError asks for an error, and beside it an empty list.
func wantError[T any](t *testing.T, want api.Errno) func(got []T, e api.Errno) {
	return func(got []T, e api.Errno) {
		t.Helper()
		if e != want || len(got) != 0 {
			t.Fatalf("%v with %v, not %v with nothing", e, got, want)
		}
	}
}

// The helpers stand on this: a test that takes them for granted would tell nothing otherwise.
func TestHelpers(t *testing.T) {
	for _, g := range samples() {
		for i, a := range forms(g) {
			if len(a) != len(g.rows) {
				t.Fatalf("%v: %v", g, a)
			}
			for j, row := range a {
				for k, x := range row {
					if !same(ratio.Clean(x), ofBig(g.rows[j][k])) || i > 0 && ratio.Right(x) {
						t.Fatalf("%v: %v", g, a)
					}
				}
			}
		}
	}
	for _, a := range ragged() {
		if len(solve.Copy(a)) != len(a) {
			t.Fatal(a)
		}
	}
	s, leaders := of("0 2 4", "0 1 2", "0 3 7").steps()
	if s.String() != "(0 1 0)\n(0 0 1)\n(0 0 0)" || !slices.Equal(leaders, []int{1, 2}) {
		t.Fatal(s, leaders)
	}
	if of("2 0 1", "1 3 2", "1 1 1").det().RatString() != "0" || of("0 1", "1 0").det().RatString() != "-1" {
		t.Fatal("determinants")
	}
}
