package rows_test

import (
	"slices"
	"strings"
	"testing"

	"dendron/api"
	"dendron/lex"
	"dendron/ratio"
	"dendron/rows"
)

// Promise 9.1: a word is an entry, or ratio.Parse's error.
func TestCell(t *testing.T) {
	wantCell(t, "?", api.Cell{Missing: true}, api.OK)
	for word, want := range map[string]string{"0": "0", "-0": "0", "0/7": "0", "-0.00": "0", "007": "7", "-1.50": "-3/2", "6/4": "3/2", "-10/4": "-5/2", "4294967296": "4294967296", "100000000000000000000/3": "100000000000000000000/3"} {
		wantCell(t, word, api.Cell{Value: number(want)}, api.OK)
	}
	for _, word := range []string{"", " ", "-", "?\n", "??", "? ", " ?", "-?", "?1", "|", "x", "+1", "1/", "/1", "1.", ".5", "1/2/3", "1.2.3", "1/-2", "--1", "1e5", "0x1", "1 2", "٣", "\xff", "missing"} {
		wantCell(t, word, api.Cell{}, api.ErrForm)
	}
	for _, word := range []string{"1/0", "-1/0", "0/0", "5/000"} {
		wantCell(t, word, api.Cell{}, api.ErrZero)
	}
}

// Promise 9.1: numbers of as many digits as may be, and one more.
func TestCellAtTheLimit(t *testing.T) {
	most := strings.Repeat("9", api.MaxDigits)
	for _, word := range []string{most, "-" + most, most + "/7", "7/" + most, "0." + most} {
		wantCell(t, word, api.Cell{Value: number(word)}, api.OK)
	}
	for _, word := range []string{most + "9", "-" + most + "9", most + "9/7", "7/9" + most, "0.9" + most} {
		wantCell(t, word, api.Cell{}, api.ErrDigits)
	}
	wantCell(t, most+"9x", api.Cell{}, api.ErrForm)
}

// Promise 9.1: of words of a few letters each is what a pattern says.
func TestCellByChance(t *testing.T) {
	d := dice(3)
	for range 20000 {
		word := ""
		for range d.below(7) {
			word += pickOf(&d, "0", "1", "7", "-", "/", ".", "?", "|")
		}
		want, why := cellBySight(word)
		wantCell(t, word, want, why)
		if value, e := ratio.Parse(word); word != "?" {
			wantCell(t, word, api.Cell{Value: value}, e)
		}
	}
}

// Promise 9.1: all words are entries, or the first that is none is told, at the place that it has.
func TestWords(t *testing.T) {
	for _, none := range [][]api.Token{nil, {}} {
		if got, at, e := rows.Words(none); len(got) != 0 || at != 0 || e != api.OK {
			t.Fatal(got, at, e)
		}
	}
	for _, c := range []struct {
		words []api.Token
		want  []api.Cell
		place int
		why   api.Errno
	}{
		{[]api.Token{{Text: "5"}}, row("5"), 0, api.OK},
		{[]api.Token{{At: 9, Line: 3, Text: "-6/4"}, {At: 4, Text: "?"}, {Text: "0.5"}}, row("-3/2 ? 1/2"), 0, api.OK},
		{[]api.Token{{At: 3, Text: "1"}, {At: 5, Text: "x"}, {At: 7, Text: "1/0"}}, nil, 5, api.ErrForm},
		{[]api.Token{{At: 3, Text: "1"}, {At: 5, Text: "1/0"}, {At: 7, Text: "x"}}, nil, 5, api.ErrZero},
		{[]api.Token{{At: 77, Line: 9, Text: ""}}, nil, 77, api.ErrForm},
		{[]api.Token{{At: -5, Text: "|"}}, nil, -5, api.ErrForm},
		{[]api.Token{{At: 1, Text: "?"}, {At: 3, Text: "? "}}, nil, 3, api.ErrForm},
		{[]api.Token{{At: 1, Text: strings.Repeat("1", api.MaxDigits+1)}, {At: 2, Text: "x"}}, nil, 1, api.ErrDigits},
	} {
		got, at, e := rows.Words(c.words)
		if !sameRow(got, c.want) || at != c.place || e != c.why {
			t.Fatalf("%v: %v, at %d, %v", c.words, got, at, e)
		}
	}
}

// Promise 9.1: words are taken however many there are; the limit is lex's.
func TestWordsBeyondTheLimit(t *testing.T) {
	many := slices.Repeat([]api.Token{{At: 1, Text: "1/2"}, {At: 2, Text: "?"}}, api.MaxWords)
	got, at, e := rows.Words(many)
	if at != 0 || e != api.OK || !sameRow(got, slices.Repeat(row("1/2 ?"), api.MaxWords)) {
		t.Fatal(len(got), at, e)
	}
	many[len(many)-1] = api.Token{At: 6, Text: "x"}
	if got, at, e := rows.Words(many); len(got) != 0 || at != 6 || e != api.ErrForm {
		t.Fatal(len(got), at, e)
	}
}

// Promise 9.1: example 1, and others by hand.
func TestRow(t *testing.T) {
	for s, want := range map[string]string{
		"1/2 ? -3": "1/2 ? -3", "": "", "  \t\r": "", "# 1": "", "?": "?", " 1.50\t?\r-0 # 5 |": "3/2 ? 0", "?#": "?", "1#\x00": "1",
	} {
		wantRow(t, s, row(want), 0, api.OK)
	}
	for _, c := range []struct {
		text  string
		place int
		why   api.Errno
	}{
		{"1 x", 2, api.ErrForm}, {"x", 0, api.ErrForm}, {"  1 |", 4, api.ErrForm}, {"1 | 2", 2, api.ErrForm}, {"|", 0, api.ErrForm},
		{"1 ??", 2, api.ErrForm}, {"1 1/0 x", 2, api.ErrZero}, {"1 x 1/0", 2, api.ErrForm},
		// What lex tells comes ahead of what the words tell, wherever it stands.
		{"x 1\n", 3, api.ErrForm}, {"1/0 \x7f", 4, api.ErrForm}, {"1/0 2\xff", 5, api.ErrForm}, {"\n", 0, api.ErrForm},
	} {
		wantRow(t, c.text, nil, c.place, c.why)
	}
}

// Promise 9.1: 4096 words are a row, one more is lex's fault; bars are words too.
func TestRowAndRowsAtTheLimit(t *testing.T) {
	most := strings.Repeat("1 ", api.MaxWords)
	wantRow(t, most, slices.Repeat(row("1"), api.MaxWords), 0, api.OK)
	wantRows(t, most, [][]api.Cell{slices.Repeat(row("1"), api.MaxWords)}, 0, api.OK)
	for _, s := range []string{most + "1", most + "|", "x " + most, "1/0 " + most} {
		place := len(s) - 1
		if s[0] != '1' || s[1] == '/' {
			place = len(s) - 2
		}
		wantRow(t, s, nil, place, api.ErrLimit)
		wantRows(t, s, nil, place, api.ErrLimit)
	}
	bars := strings.Repeat("| ", api.MaxWords)
	wantRows(t, bars, make([][]api.Cell, api.MaxWords+1), 0, api.OK)
	wantRows(t, bars+"|", nil, 8192, api.ErrLimit)
	wantRow(t, bars, nil, 0, api.ErrForm)
	wantRow(t, strings.Repeat("1", api.MaxDigits+1)+" x", nil, 0, api.ErrDigits)
	wantRows(t, "? | "+strings.Repeat("1", api.MaxDigits+1)+" x", nil, 4, api.ErrDigits)
}

// Promise 9.1: words are cut wherever one is a bar, and nowhere else.
func TestSplit(t *testing.T) {
	for s, want := range map[string][]string{
		"": nil, "# |": nil, "a": {"a"}, "a b": {"a b"}, "|": {"", ""}, "||": {"||"}, "| |": {"", "", ""}, "a|b": {"a|b"}, "|a |": {"|a", ""},
		"a |": {"a", ""}, "| a": {"", "a"}, "a | b c | | d": {"a", "b c", "", "d"}, "1 | ? x": {"1", "? x"},
	} {
		words, _, _ := lex.Words(s)
		got := rows.Split(words)
		var texts []string
		for _, part := range got {
			var l []string
			for _, word := range part {
				l = append(l, word.Text)
			}
			texts = append(texts, strings.Join(l, " "))
		}
		if !slices.Equal(texts, want) {
			t.Fatalf("%q: %q, not %q", s, texts, want)
		}
		rest := slices.DeleteFunc(slices.Clone(words), func(w api.Token) bool { return w.Text == "|" })
		if !slices.Equal(slices.Concat(got...), rest) {
			t.Fatalf("%q: %v has other words than %v", s, got, words)
		}
		if len(words) > 0 && len(got) != 1+len(words)-len(rest) {
			t.Fatalf("%q: %d parts", s, len(got))
		}
	}
	if got := rows.Split([]api.Token{}); len(got) != 0 {
		t.Fatal(got)
	}
	odd := []api.Token{{At: -1, Line: 7, Text: ""}, {At: 5, Line: 8, Text: "|"}, {At: 5, Line: -8, Text: " |"}}
	if got := rows.Split(odd); len(got) != 2 || !slices.Equal(got[0], odd[:1]) || !slices.Equal(got[1], odd[2:]) {
		t.Fatal(got)
	}
}

// Promise 9.1: example 2, and others by hand.
func TestRows(t *testing.T) {
	for s, want := range map[string][][]api.Cell{
		"1 | 2": {row("1"), row("2")}, "": nil, " \t# 1 | 2": nil, "1/2 ? -3": {row("1/2 ? -3")}, "|": {nil, nil}, "| 1": {nil, row("1")}, "1 |": {row("1"), nil},
		"1 | | 2 3": {row("1"), nil, row("2 3")}, "| | |": {nil, nil, nil, nil}, "?\t|\r? # |": {row("?"), row("?")},
	} {
		wantRows(t, s, want, 0, api.OK)
	}
	for _, c := range []struct {
		text  string
		place int
		why   api.Errno
	}{
		{"1 x", 2, api.ErrForm}, {"1 | x", 4, api.ErrForm}, {"1 | 2 | 3 1/0 | x", 10, api.ErrZero}, {"1 || 2", 2, api.ErrForm}, {"1| 2", 0, api.ErrForm}, {"1 |2", 2, api.ErrForm},
		{"| x | 1/0", 2, api.ErrForm}, {"1/0 | 2\n", 7, api.ErrForm}, {"| | \x01", 4, api.ErrForm},
	} {
		wantRows(t, c.text, nil, c.place, c.why)
	}
}

// Promise 9.1: lines of good and bad words by chance.
func TestRowAndRowsByChance(t *testing.T) {
	d := dice(5)
	for range 20000 {
		s := ""
		for range d.below(9) {
			s += pickOf(&d, " ", "  ", "\t", " ", " ", " ", "") + pickOf(&d, "1", "?", "|", "|", "-1.50", "22/7", "0", "-6/4", "18446744073709551616/5")
			if d.below(30) == 0 {
				s += pickOf(&d, " x", " 1/0", " ??", "\n", "\x7f", " # 1 |", "é", " -")
			}
		}
		bySight(t, s)
	}
}
