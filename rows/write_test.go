package rows_test

import (
	"slices"
	"strings"
	"testing"

	"dendron/api"
	"dendron/ratio"
	"dendron/rows"
)

// Promise 9.2: a missing entry's number is not looked at, a number's form does not tell.
func TestPrint(t *testing.T) {
	for _, value := range append(zeros(), number("5"), soiled(number("-7/3"))) {
		if got := rows.Print(api.Cell{Missing: true, Value: value}); got != "?" {
			t.Fatalf("missing, with %v: %q", value, got)
		}
	}
	for _, value := range zeros() {
		if got := rows.Print(api.Cell{Value: value}); got != "0" {
			t.Fatalf("%v: %q", value, got)
		}
	}
	for _, s := range []string{"1", "-1", "1/2", "-22/7", "4294967296", "-1/18446744073709551616"} {
		if got, other := rows.Print(api.Cell{Value: number(s)}), rows.Print(api.Cell{Value: soiled(number(s))}); got != s || other != s {
			t.Fatalf("%s: %q and %q", s, got, other)
		}
	}
	long := api.Cell{Value: ratio.Frac(1, 3)}
	for range 12 {
		long.Value = ratio.Mul(long.Value, long.Value)
	}
	if rows.Print(long) != ratio.Print(long.Value) || len(rows.Print(long)) < 1900 {
		t.Fatal(len(rows.Print(long)))
	}
}

// Promise 9.2: words have one blank between, and none around them.
func TestWrite(t *testing.T) {
	for _, c := range []struct {
		row  []api.Cell
		want string
	}{
		{nil, ""}, {[]api.Cell{}, ""}, {row("1"), "1"}, {row("?"), "?"}, {row("1/2 ? -3"), "1/2 ? -3"}, {make([]api.Cell, 3), "0 0 0"},
		{[]api.Cell{{Value: number("1.50")}, {Missing: true, Value: number("8")}, {Value: soiled(number("-1"))}}, "3/2 ? -1"},
	} {
		if got := rows.Write(c.row); got != c.want {
			t.Fatalf("%v: %q, not %q", c.row, got, c.want)
		}
	}
}

// Promise 9.2: between two rows stands a bar, with a blank on both sides, also where a row has no words.
func TestWriteAll(t *testing.T) {
	for _, c := range []struct {
		rows [][]api.Cell
		want string
	}{
		{nil, ""}, {[][]api.Cell{}, ""}, {[][]api.Cell{nil}, ""}, {[][]api.Cell{{}, nil}, " | "}, {[][]api.Cell{nil, nil, {}}, " |  | "},
		{[][]api.Cell{row("1/2 ? -3")}, "1/2 ? -3"}, {[][]api.Cell{row("1"), row("2")}, "1 | 2"}, {[][]api.Cell{row("1"), nil, row("2 3")}, "1 |  | 2 3"},
		{[][]api.Cell{nil, row("?")}, " | ?"}, {[][]api.Cell{row("?"), nil}, "? | "},
	} {
		if got := rows.WriteAll(c.rows); got != c.want {
			t.Fatalf("%v: %q, not %q", c.rows, got, c.want)
		}
	}
}

// Promise 9.2: entries of all forms by chance.
func TestWriteByChance(t *testing.T) {
	d := dice(7)
	for range 3000 {
		l := d.anyRows(d.below(5), 4)
		var texts []string
		for _, r := range l {
			text := lineBySight(r)
			if got := rows.Write(r); got != text {
				t.Fatalf("%v: %q, not %q", r, got, text)
			}
			texts = append(texts, text)
		}
		if got := rows.WriteAll(l); got != strings.Join(texts, " | ") {
			t.Fatalf("%v: %q", l, got)
		}
	}
}

// Promise 9.4: what is written is read as the same row, the same rows; one empty row is read as none.
func TestReadOfWrite(t *testing.T) {
	d := dice(9)
	for range 3000 {
		r := d.anyRow(d.below(8))
		wantRow(t, rows.Write(r), tidied(r), 0, api.OK)
		if got, _, _ := rows.Row(rows.Write(r)); !rows.Equal(got, r) || rows.Write(got) != rows.Write(r) {
			t.Fatalf("%v: %v", r, got)
		}
		l := d.anyRows(d.below(5), 3)
		want := tidiedAll(l)
		if len(l) == 1 && len(l[0]) == 0 {
			want = nil
		}
		wantRows(t, rows.WriteAll(l), want, 0, api.OK)
	}
	for n := range 5 {
		want := make([][]api.Cell, n)
		if n == 1 {
			want = nil
		}
		wantRows(t, rows.WriteAll(make([][]api.Cell, n)), want, 0, api.OK)
	}
}

// Promise 9.4: up to what lex and ratio.Parse take, and their errors beyond.
func TestReadOfWriteAtTheLimit(t *testing.T) {
	full := slices.Repeat(row("?"), api.MaxWords)
	wantRow(t, rows.Write(full), full, 0, api.OK)
	wantRow(t, rows.Write(append(full, cell("1"))), nil, 2*api.MaxWords, api.ErrLimit)
	empty := make([][]api.Cell, api.MaxWords+1)
	wantRows(t, rows.WriteAll(empty), empty, 0, api.OK)
	if _, _, e := rows.Rows(rows.WriteAll(append(empty, nil))); e != api.ErrLimit {
		t.Fatal(e)
	}
	long := row("1 0." + strings.Repeat("1", api.MaxDigits-1))
	wantRow(t, rows.Write(long), long, 0, api.OK)
	wantRow(t, rows.Write(row("1 0."+strings.Repeat("1", api.MaxDigits))), nil, 2, api.ErrDigits)
}
