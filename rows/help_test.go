package rows_test

import (
	"math/big"
	"regexp"
	"slices"
	"strings"
	"testing"

	"dendron/api"
	"dendron/lex"
	"dendron/ratio"
	"dendron/rows"
)

// dice gives the same numbers on every run.
type dice uint64

func (d *dice) next() uint64 {
	*d = *d*6364136223846793005 + 1442695040888963407
	return uint64(*d) >> 16
}

func (d *dice) below(n int) int {
	return int(d.next() % uint64(n))
}

func pickOf[T any](d *dice, l ...T) T {
	return l[d.below(len(l))]
}

func number(s string) api.Rat {
	out, e := ratio.Parse(s)
	if e != api.OK {
		panic("no number: " + s)
	}
	return out
}

// cell is an entry by its word; row by the words of a line.
func cell(word string) api.Cell {
	if word == "?" {
		return api.Cell{Missing: true}
	}
	return api.Cell{Value: number(word)}
}

func row(s string) []api.Cell {
	var out []api.Cell
	for _, word := range strings.Fields(s) {
		out = append(out, cell(word))
	}
	return out
}

// soiled is the same number as it may not be: with a divisor in both parts, bits above the 32nd, zeros on top, and memory behind the end.
func soiled(a api.Rat) api.Rat {
	limbs := func(l api.Nat) api.Nat {
		var out api.Nat
		carry := uint64(0)
		for i, x := range l {
			carry += x * 6
			out = append(out, carry&(1<<32-1)|uint64(i+1)<<32)
			carry >>= 32
		}
		return append(out, carry, 5<<32, 77, 88)[:len(out)+2]
	}
	return api.Rat{Num: api.Int{Neg: a.Num.Neg || len(a.Num.Abs) == 0, Abs: limbs(a.Num.Abs)}, Den: limbs(a.Den)}
}

// zeros are 0 as all that it can be.
func zeros() []api.Rat {
	return []api.Rat{ratio.Zero(), {}, {Num: api.Int{Neg: true}, Den: api.Nat{1}}, {Num: api.Int{Neg: true, Abs: api.Nat{5}}}, {Num: api.Int{Abs: api.Nat{0, 1 << 32}}, Den: api.Nat{7}}, {Num: api.Int{Abs: api.Nat{9}}, Den: api.Nat{1 << 32, 0}}}
}

// anyCell is missing, with or without a number that must not be looked at, or a number of any size and form.
func (d *dice) anyCell() api.Cell {
	value := number(pickOf(d, "0", "1", "-1", "2", "1/2", "-1/2", "22/7", "-0.125", "4294967296", "1/4294967296", "-18446744073709551616/3", "123456789012345678901234567890"))
	switch d.below(6) {
	case 0:
		return api.Cell{Missing: true}
	case 1:
		return api.Cell{Missing: true, Value: soiled(value)}
	case 2:
		return api.Cell{Value: soiled(value)}
	case 3:
		return api.Cell{Value: pickOf(d, zeros()...)}
	}
	return api.Cell{Value: value}
}

func (d *dice) anyRow(n int) []api.Cell {
	var out []api.Cell
	for range n {
		out = append(out, d.anyCell())
	}
	return out
}

func (d *dice) anyRows(count, most int) [][]api.Cell {
	var out [][]api.Cell
	for range count {
		out = append(out, d.anyRow(d.below(most+1)))
	}
	return out
}

// sameLimbs asks for the same limbs, not for the same number alone.
func sameLimbs(a, b api.Cell) bool {
	v, w := a.Value, b.Value
	return a.Missing == b.Missing && v.Num.Neg == w.Num.Neg && slices.Equal(v.Num.Abs, w.Num.Abs) && slices.Equal(v.Den, w.Den)
}

func sameRow(a, b []api.Cell) bool {
	return slices.EqualFunc(a, b, sameLimbs)
}

func sameRows(a, b [][]api.Cell) bool {
	return slices.EqualFunc(a, b, sameRow)
}

// wordBySight is an entry's word, by means that the program has not.
func wordBySight(c api.Cell) string {
	if c.Missing {
		return "?"
	}
	part := func(l api.Nat) *big.Int {
		out := new(big.Int)
		for _, x := range slices.Backward(l) {
			out.Lsh(out, 32)
			out.Or(out, big.NewInt(int64(x&(1<<32-1))))
		}
		return out
	}
	num, den := part(c.Value.Num.Abs), part(c.Value.Den)
	if den.Sign() == 0 {
		return "0"
	}
	if c.Value.Num.Neg {
		num.Neg(num)
	}
	return new(big.Rat).SetFrac(num, den).RatString()
}

func lineBySight(l []api.Cell) string {
	out := ""
	for i, c := range l {
		if i > 0 {
			out += " "
		}
		out += wordBySight(c)
	}
	return out
}

// tidied are the same entries in their form, of missing ones no number.
func tidied(l []api.Cell) []api.Cell {
	return row(lineBySight(l))
}

func tidiedAll(l [][]api.Cell) [][]api.Cell {
	var out [][]api.Cell
	for _, r := range l {
		out = append(out, tidied(r))
	}
	return out
}

var ofNumber = regexp.MustCompile(`^(-?)([0-9]+)(?:([./])([0-9]+))?$`)

// cellBySight is the entry that a word is, by a pattern; what is too long stands apart (its tests are by hand).
func cellBySight(word string) (api.Cell, api.Errno) {
	if word == "?" {
		return cell(word), api.OK
	}
	parts := ofNumber.FindStringSubmatch(word)
	if parts == nil {
		return api.Cell{}, api.ErrForm
	}
	num, den := parts[2], "1"
	switch parts[3] {
	case "/":
		den = parts[4]
	case ".":
		num, den = num+parts[4], "1"+strings.Repeat("0", len(parts[4]))
	}
	// With the base told, zeros ahead do not make another one of it.
	above, _ := new(big.Int).SetString(parts[1]+num, 10)
	below, _ := new(big.Int).SetString(den, 10)
	if below.Sign() == 0 {
		return api.Cell{}, api.ErrZero
	}
	return cell(new(big.Rat).SetFrac(above, below).RatString()), api.OK
}

// rowsBySight cuts a line's words at the bars by their places, and takes each part alone.
func rowsBySight(s string, bars bool) ([][]api.Cell, int, api.Errno) {
	words, at, e := lex.Words(s)
	if e != api.OK {
		return nil, at, e
	}
	out := [][]api.Cell{nil}
	for _, word := range words {
		if bars && word.Text == "|" {
			out = append(out, nil)
			continue
		}
		c, e := cellBySight(word.Text)
		if e != api.OK {
			return nil, word.At, e
		}
		out[len(out)-1] = append(out[len(out)-1], c)
	}
	if len(words) == 0 {
		return nil, 0, api.OK
	}
	return out, 0, api.OK
}

func short(s string) string {
	if len(s) > 200 {
		return s[:200] + ".."
	}
	return s
}

func wantCell(t *testing.T, word string, want api.Cell, why api.Errno) {
	t.Helper()
	if got, e := rows.Cell(word); !sameLimbs(got, want) || e != why {
		t.Fatalf("%q: %v, %v; not %v, %v", short(word), got, e, want, why)
	}
}

// wantRow asks for a row, or for a fault and its place, and nothing beside.
func wantRow(t *testing.T, s string, want []api.Cell, place int, why api.Errno) {
	t.Helper()
	got, at, e := rows.Row(s)
	if !sameRow(got, want) || at != place || e != why {
		t.Fatalf("row of %q: %v, at %d, %v; not %v, at %d, %v", short(s), got, at, e, want, place, why)
	}
}

func wantRows(t *testing.T, s string, want [][]api.Cell, place int, why api.Errno) {
	t.Helper()
	got, at, e := rows.Rows(s)
	if !sameRows(got, want) || at != place || e != why {
		t.Fatalf("rows of %q: %v, at %d, %v; not %v, at %d, %v", short(s), got, at, e, want, place, why)
	}
}

// bySight holds a line, taken for a row and for rows, against what it is by sight.
func bySight(t *testing.T, s string) {
	t.Helper()
	want, place, why := rowsBySight(s, true)
	wantRows(t, s, want, place, why)
	one, place, why := rowsBySight(s, false)
	wantRow(t, s, slices.Concat(one...), place, why)
}
