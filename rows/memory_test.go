package rows_test

import (
	"slices"
	"testing"

	"dendron/api"
	"dendron/lex"
	"dendron/rows"
)

// whole is a copy of entries with what lies behind the lists' ends.
func whole(l []api.Cell) []api.Cell {
	limbs := func(l api.Nat) api.Nat { return slices.Clone(l[:cap(l)]) }
	var out []api.Cell
	for _, c := range l[:cap(l)] {
		v := c.Value
		out = append(out, api.Cell{Missing: c.Missing, Value: api.Rat{Num: api.Int{Neg: v.Num.Neg, Abs: limbs(v.Num.Abs)}, Den: limbs(v.Den)}})
	}
	return out
}

// room is the same row with memory behind its end; its last entry, if it has several, stands in the first place too, limbs and all.
func room(l []api.Cell) []api.Cell {
	out := append(slices.Clone(l), cell("77"), cell("?"))[:len(l)]
	if len(l) > 1 {
		out[0] = out[len(l)-1]
	}
	return out
}

func writeOver(a api.Rat) {
	for _, l := range []api.Nat{a.Num.Abs[:cap(a.Num.Abs)], a.Den[:cap(a.Den)]} {
		for i := range l {
			l[i] = 1<<64 - 1
		}
	}
}

// spoil writes over all that a row reaches, from its last entry on; whether the entries ahead stayed each time.
func spoil(l []api.Cell) bool {
	keep := whole(l)
	for i, c := range slices.Backward(l) {
		writeOver(c.Value)
		if !slices.EqualFunc(l[:i], keep[:i], func(a, b api.Cell) bool { return wordBySight(a) == wordBySight(b) }) {
			return false
		}
	}
	for i := range l[:cap(l)] {
		l[:cap(l)][i] = api.Cell{Missing: true, Value: number("99")}
	}
	return true
}

// Rule R3: rows and entries stay as they are, also behind their ends, and nothing hangs on what is answered.
func TestArgumentsStay(t *testing.T) {
	d := dice(21)
	for range 2000 {
		n := 1 + d.below(5)
		a, b := room(d.anyRow(n)), room(d.anyRow(n))
		if d.below(3) == 0 {
			b = a
		}
		c := pickOf(&d, d.anyCell(), a[0], b[n-1])
		keepA, keepB, keepC := whole(a), whole(b), whole([]api.Cell{c})
		rows.Print(c)
		rows.Write(a)
		rows.WriteAll([][]api.Cell{a, b, a})
		rows.Same(a[0], c)
		rows.Equal(a, b)
		with, _ := rows.With(a, d.below(n), c)
		mixed, _ := rows.Mix(a, b, d.next())
		other := whole(mixed)
		if !spoil(with) || !sameRow(whole(mixed), other) || !spoil(mixed) {
			t.Fatalf("entries that were answered of %v and %v hang together", a, b)
		}
		if !sameRow(whole(a), keepA) || !sameRow(whole(b), keepB) || !sameRow(whole([]api.Cell{c}), keepC) {
			t.Fatalf("%v, %v or %v has turned", a, b, c)
		}
	}
}

// Rule R3: what was answered stays, when what was handed in is written over.
func TestAnswersStay(t *testing.T) {
	d := dice(23)
	for range 2000 {
		n := 1 + d.below(5)
		a, b, c := room(d.anyRow(n)), room(d.anyRow(n)), d.anyCell()
		with, _ := rows.With(a, d.below(n), c)
		mixed, _ := rows.Mix(a, b, d.next())
		text, all := rows.Write(with), rows.WriteAll([][]api.Cell{with, mixed})
		spoil(a)
		spoil(b)
		writeOver(c.Value)
		if lineBySight(with) != text || lineBySight(with)+" | "+lineBySight(mixed) != all {
			t.Fatalf("%v or %v has turned", with, mixed)
		}
	}
}

// Rule R3: what is read has memory of its own, row by row and entry by entry, also where numbers are the same.
func TestReadAnswersNewMemory(t *testing.T) {
	for _, s := range []string{"1 1 ? 1", "1/2 | 1/2 1/2 | | 0 0 -0", "? | 5 5 | 5"} {
		first, _, _ := rows.Rows(s)
		want := rows.WriteAll(first)
		for i, r := range slices.Backward(first) {
			text := rows.WriteAll(first[:i])
			if !spoil(r) || rows.WriteAll(first[:i]) != text {
				t.Fatalf("%q: rows hang together", s)
			}
		}
		second, _, _ := rows.Rows(s)
		if rows.WriteAll(second) != want {
			t.Fatalf("%q: another answer has turned", s)
		}
	}
	one, _, _ := rows.Row("3 3 ? 3")
	if !spoil(one) {
		t.Fatal("entries of a row hang together")
	}
	wantRow(t, "3 3 ? 3", row("3 3 ? 3"), 0, api.OK)
}

// Rule R3: nothing that is appended to a part, or written into it, is found in another one, or in the words.
func TestSplitAnswersNewMemory(t *testing.T) {
	mark := api.Token{At: 99, Text: "mark"}
	for _, s := range []string{"a b | c d | e", "| a |", "a", "| |", "a b c d e f g | h"} {
		words, _, _ := lex.Words(s)
		words = append(words, mark)[:len(words)]
		keep := slices.Clone(words[:cap(words)])
		want := rows.Split(words)
		for i := range want {
			got := rows.Split(words)
			_ = append(got[i], mark, mark)
			full := got[i][:cap(got[i])]
			for k := range full {
				full[k] = mark
			}
			for k := range got {
				if k != i && !slices.Equal(got[k], want[k]) {
					t.Fatalf("%q: part %d hangs on part %d", s, k, i)
				}
			}
		}
		if !slices.Equal(words[:cap(words)], keep) {
			t.Fatalf("%q: words have turned", s)
		}
	}
}

// Rule R3: words stay as they are.
func TestWordsStay(t *testing.T) {
	words := []api.Token{{At: 1, Text: "1"}, {At: 3, Text: "?"}, {At: 5, Text: "x"}, {At: 7, Text: "7"}}
	keep := slices.Clone(words)
	first, _, _ := rows.Words(words[:2])
	rows.Words(words)
	spoil(first)
	if again, _, _ := rows.Words(words[:2]); !slices.Equal(words, keep) || !sameRow(again, row("1 ?")) {
		t.Fatal(words, again)
	}
}
