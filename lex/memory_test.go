package lex_test

import (
	"slices"
	"testing"

	"dendron/api"
	"dendron/lex"
)

func writeOver(l []api.Token) {
	l = l[:cap(l)]
	for i := range l {
		l[i] = api.Token{At: -1, Line: -1, Text: "over"}
	}
}

// Rule R3: no list that is answered is turned by turning another one, nor what a reader reads.
func TestAnswersShareNothing(t *testing.T) {
	text := "a b c\nd\n\ne f\ng h i j k\n"
	r := lex.Read(text)
	want, _, _ := linesBySight(text)
	first, _, _ := lex.Lines(text)
	second, _, _ := lex.Lines(text)
	for i := range first {
		writeOver(first[i])
		if !slices.EqualFunc(first[i+1:], want[i+1:], slices.Equal[[]api.Token]) {
			t.Fatalf("line %d turns others: %v", i, first)
		}
	}
	first = first[:cap(first)]
	clear(first)
	if !sameLines(second, want) {
		t.Fatal(second)
	}
	for _, words := range want {
		for _, w := range words {
			r.Take(w.Text)
		}
		r.Next()
	}
	r.End()
	wantErr(t, text, r, api.OK, 0)
	one, _, _ := lex.Words("a b c")
	writeOver(one)
	wantWords(t, "a b c")
}

// Rule R3: the words to pick from stay as they are, and what lies behind them.
func TestPickChangesNothing(t *testing.T) {
	words := []string{"c", "a", "b", "behind"}
	r := lex.Read("b behind")
	if n := r.Pick(words[:3]...); n != 2 {
		t.Fatal(n)
	}
	if r.Pick(words[:3]...); !slices.Equal(words, []string{"c", "a", "b", "behind"}) {
		t.Fatal(words)
	}
	wantErr(t, "behind", r, api.ErrWord, 2)
}

// Rule R4: two readers of one text go each their own way.
func TestReadersAreApart(t *testing.T) {
	a, b := lex.Read("a b\nc"), lex.Read("a b\nc")
	a.Word()
	a.Word()
	a.Next()
	a.Take("x")
	wantErr(t, "a", a, api.ErrWord, 4)
	wantErr(t, "b", b, api.OK, 0)
	if b.Lines() != 2 || b.Word() != "a" || b.Word() != "b" {
		t.Fatal(b)
	}
}
