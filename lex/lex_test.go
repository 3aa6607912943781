package lex_test

import (
	"slices"
	"strings"
	"testing"

	"dendron/api"
	"dendron/lex"
)

// Promise 6.1: example 1, and others by hand.
func TestWords(t *testing.T) {
	for _, c := range []struct {
		text string
		want []api.Token
	}{
		{"a  bc#d", []api.Token{{At: 0, Text: "a"}, {At: 3, Text: "bc"}}},
		{"", nil}, {" ", nil}, {" \t\r ", nil}, {"#", nil}, {"# a b", nil}, {"  #a", nil}, {"##", nil},
		{"a", []api.Token{{At: 0, Text: "a"}}},
		{" a", []api.Token{{At: 1, Text: "a"}}},
		{"a ", []api.Token{{At: 0, Text: "a"}}},
		{"a\tb\rc d", []api.Token{{At: 0, Text: "a"}, {At: 2, Text: "b"}, {At: 4, Text: "c"}, {At: 6, Text: "d"}}},
		{"\r\t !~\" #", []api.Token{{At: 3, Text: "!~\""}}},
		{"$%&'()*+,-./09:;<=>?@AZ[\\]^_`az{|}", []api.Token{{At: 0, Text: "$%&'()*+,-./09:;<=>?@AZ[\\]^_`az{|}"}}},
		{"a #b\x00\x7f\xffc", []api.Token{{At: 0, Text: "a"}}},
		{"1/2 ? | -3", []api.Token{{At: 0, Text: "1/2"}, {At: 4, Text: "?"}, {At: 6, Text: "|"}, {At: 8, Text: "-3"}}},
	} {
		got, at, e := lex.Words(c.text)
		if !slices.Equal(got, c.want) || at != 0 || e != api.OK {
			t.Fatalf("%q: %v, at %d, %v; not %v", c.text, got, at, e, c.want)
		}
	}
}

// Promise 6.1: each byte, ahead of a word, within it, behind it, and behind a #.
func TestWordsOfEachByte(t *testing.T) {
	for c := range 256 {
		b := string([]byte{byte(c)})
		for _, s := range []string{b, "ab" + b, b + "ab", "ab" + b + "cd", "ab " + b + " cd", "#" + b, "ab #" + b + "cd"} {
			wantWords(t, s)
		}
		blank := c == 32 || c == 9 || c == 13
		got, at, e := lex.Words("a" + b + "c")
		switch {
		case blank:
			if len(got) != 2 || e != api.OK {
				t.Fatalf("%d: %v, %v", c, got, e)
			}
		case c == 35:
			if len(got) != 1 || e != api.OK {
				t.Fatalf("%d: %v, %v", c, got, e)
			}
		case c < 33 || c > 126:
			wantFault(t, b, len(got), at, e, 1, api.ErrForm)
		default:
			if len(got) != 1 || got[0].Text != "a"+b+"c" || e != api.OK {
				t.Fatalf("%d: %v, %v", c, got, e)
			}
		}
	}
}

// Promise 6.1: of several faults the first one; none behind a #.
func TestWordsFaults(t *testing.T) {
	for _, c := range []struct {
		text  string
		place int
	}{{"\n", 0}, {"a\n", 1}, {"a \nb", 2}, {"\x00\x01", 0}, {"a b\x7fc\x80", 3}, {"é", 0}, {"aé", 1}, {"a \x0b# b", 2}, {"a\x0c", 1}, {"\xff#", 0}, {"a\xa0b", 1}, {"\n#", 0}} {
		got, at, e := lex.Words(c.text)
		wantFault(t, c.text, len(got), at, e, c.place, api.ErrForm)
	}
}

// Promise 6.1: 4096 words, and one more.
func TestWordsAtTheLimit(t *testing.T) {
	most := strings.Repeat("a ", api.MaxWords)
	for _, s := range []string{most, most + "  ", most + "# b", most + " \t#\x00", most[:len(most)-1], most[:len(most)-1] + "b"} {
		got, at, e := lex.Words(s)
		if len(got) != 4096 || got[4095].At != 8190 || at != 0 || e != api.OK {
			t.Fatalf("%d: %d, at %d, %v", len(s), len(got), at, e)
		}
		wantWords(t, s)
	}
	for _, c := range []struct {
		behind string
		place  int
		why    api.Errno
	}{{"b", 8192, api.ErrLimit}, {"  bc d", 8194, api.ErrLimit}, {"b\x00", 8192, api.ErrLimit}, {"b #", 8192, api.ErrLimit}, {"\x00b", 8192, api.ErrForm}, {" \nb", 8193, api.ErrForm}} {
		got, at, e := lex.Words(most + c.behind)
		wantFault(t, c.behind, len(got), at, e, c.place, c.why)
	}
	got, at, e := lex.Words("\x01" + most + "b")
	wantFault(t, "fault ahead", len(got), at, e, 0, api.ErrForm)
}

// Promise 6.1: a line may be longer than a text; a word may be as long as a line.
func TestWordsOfLongLines(t *testing.T) {
	for _, s := range []string{strings.Repeat("a", api.MaxText+5), strings.Repeat(" ", api.MaxText+5) + "a", "a#" + strings.Repeat("\xff", api.MaxText)} {
		got, at, e := lex.Words(s)
		if len(got) != 1 || at != 0 || e != api.OK {
			t.Fatalf("%d, at %d, %v", len(got), at, e)
		}
	}
}

// Promises 6.1 and 6.2: texts of a few letters, with and without those that may not be.
func TestWordsAndLinesByChance(t *testing.T) {
	d := dice(1)
	for _, letters := range []string{"a b", "ab \t\r", "a b#", "ab \n", "a \n#\r", "aaaa    \n\n#\x01", "a~! \"#$\x7f\x80\xff\x1f\n", "ab#\n\xc3\xa9"} {
		for range 4000 {
			s := d.text(d.below(30), letters)
			wantWords(t, s)
			wantLines(t, s)
		}
	}
}

// Promise 6.2: by hand.
func TestLines(t *testing.T) {
	for _, c := range []struct {
		text string
		want [][]api.Token
	}{
		{"", nil}, {"\n", nil}, {"\n\n", nil}, {"# a\n #b", nil}, {" \t\r\n\r", nil},
		{"x 1\n\n # no\n y\n", [][]api.Token{{{At: 0, Text: "x"}, {At: 2, Text: "1"}}, {{At: 12, Line: 3, Text: "y"}}}},
		{"\na", [][]api.Token{{{At: 1, Line: 1, Text: "a"}}}},
		{"a\nb", [][]api.Token{{{At: 0, Text: "a"}}, {{At: 2, Line: 1, Text: "b"}}}},
		{"a#\x00\xff\n#\nb\n", [][]api.Token{{{At: 0, Text: "a"}}, {{At: 7, Line: 2, Text: "b"}}}},
		{"a b\r\n\r\nc\r\n", [][]api.Token{{{At: 0, Text: "a"}, {At: 2, Text: "b"}}, {{At: 7, Line: 2, Text: "c"}}}},
	} {
		got, at, e := lex.Lines(c.text)
		if !sameLines(got, c.want) || at != 0 || e != api.OK {
			t.Fatalf("%q: %v, at %d, %v; not %v", c.text, got, at, e, c.want)
		}
	}
}

// Promise 6.2: a line's fault stands at its place in the text; lines are gone through from the first on.
func TestLinesFaults(t *testing.T) {
	most := strings.Repeat("a ", api.MaxWords)
	for _, c := range []struct {
		text  string
		place int
		why   api.Errno
	}{
		{"a\n\x01", 2, api.ErrForm}, {"\x00", 0, api.ErrForm}, {"a\n\nb c\x7f\n\x01", 6, api.ErrForm}, {"#\x01\n#\n\xff", 5, api.ErrForm},
		{"a\n" + most + "b", 8194, api.ErrLimit}, {most + "\n" + most + "\n " + most + " b", 16388 + 8192, api.ErrLimit},
		{"\x01\n" + most + "b", 0, api.ErrForm}, {most + "b\n\x01", 8192, api.ErrLimit},
	} {
		got, at, e := lex.Lines(c.text)
		wantFault(t, c.text, len(got), at, e, c.place, c.why)
	}
	wantLines(t, most+"\n"+most)
}

// Promise 6.2: 2^20 bytes, and one more, whatever stands in them.
func TestLinesOfLongTexts(t *testing.T) {
	for _, unit := range []string{"a", " ", "ab \n", "#", "\x00", "ab cd ef gh ij kl mn op qr st uv wx yz AB CD EF GH IJ KL MN OP QR ST UV WX YZ\n"} {
		s := strings.Repeat(unit, api.MaxText/len(unit)+1)
		wantLines(t, s[:api.MaxText])
		got, at, e := lex.Lines((s + unit)[:api.MaxText+1])
		wantFault(t, unit, len(got), at, e, 0, api.ErrLong)
	}
	if _, at, e := lex.Lines(strings.Repeat("\x00", api.MaxText)); at != 0 || e != api.ErrForm {
		t.Fatal(at, e)
	}
}

// Promise 6.2: 16384 lines, and one more, also an empty one behind the last byte 10.
func TestLinesAtTheLimit(t *testing.T) {
	full := strings.Repeat("ab\n", api.MaxLines-1)
	for _, s := range []string{full, full + "ab", full + " # ab", strings.Repeat("\n", api.MaxLines-1), strings.Repeat("\n", api.MaxLines-1) + "ab"} {
		if _, at, e := lex.Lines(s); at != 0 || e != api.OK {
			t.Fatalf("%d bytes: at %d, %v", len(s), at, e)
		}
		wantLines(t, s)
	}
	got, _, _ := lex.Lines(full + "ab")
	if len(got) != 16384 || got[16383][0] != (api.Token{At: 49149, Line: 16383, Text: "ab"}) {
		t.Fatal(len(got))
	}
	for _, c := range []struct {
		text  string
		place int
		why   api.Errno
	}{
		{full + "\n", 49150, api.ErrLimit}, {full + "ab\n", 49152, api.ErrLimit}, {full + "ab\nab\nab", 49152, api.ErrLimit}, {full + "ab\n\x00", 49152, api.ErrLimit},
		{full + "a\x00\n", 49150, api.ErrForm}, {strings.Repeat("\n", api.MaxLines), 16384, api.ErrLimit}, {strings.Repeat("\n", api.MaxText), 16384, api.ErrLimit}, {strings.Repeat("\n", api.MaxText+1), 0, api.ErrLong},
	} {
		got, at, e := lex.Lines(c.text)
		wantFault(t, c.text, len(got), at, e, c.place, c.why)
	}
}
