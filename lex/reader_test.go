package lex_test

import (
	"math"
	"strconv"
	"strings"
	"testing"

	"dendron/api"
	"dendron/lex"
)

// wantNothing asks that each call tells nothing, and that the error stays.
func wantNothing(t *testing.T, r *lex.Reader) {
	t.Helper()
	e, at := r.Err()
	for range 2 {
		if r.More() || r.Lines() != 0 || r.Word() != "" || r.Pick("a", "", "b") != 0 || r.Pick("a") != 0 || r.Pick() != 0 || r.Count(math.MinInt, math.MaxInt) != 0 || r.Count(5, 5) != 0 {
			t.Fatal("something is told")
		}
		r.Take("a")
		r.Take("")
		r.Fail(api.ErrRange)
		r.Fail(api.OK)
		r.Next()
		r.End()
		wantErr(t, "behind an error", r, e, at)
	}
}

// Promise 6.3: a reader at the first word, of the lines that have some.
func TestRead(t *testing.T) {
	for _, c := range []struct {
		text, first string
		lines       int
	}{{"a", "a", 1}, {"name 12 left\nend", "name", 2}, {"\n # no\n\n  b c\n\nd\n#\n", "b", 2}, {"\r\na\r\n", "a", 1}, {strings.Repeat("ab\n", api.MaxLines-1), "ab", 16383}} {
		r := lex.Read(c.text)
		wantErr(t, c.text, r, api.OK, 0)
		if !r.More() || r.Lines() != c.lines || r.Word() != c.first {
			t.Fatalf("%q: %v, %d", short(c.text), r.More(), r.Lines())
		}
		wantErr(t, c.text, r, api.OK, 0)
	}
	for _, s := range []string{"", "\n", " ", "# a\n\n#"} {
		r := lex.Read(s)
		if r.More() || r.Lines() != 0 {
			t.Fatalf("%q: %v, %d", s, r.More(), r.Lines())
		}
		r.End()
		r.Fail(api.ErrRange)
		wantErr(t, s, r, api.OK, 0)
	}
}

// Promise 6.3: with the error of Lines, behind which nothing is read.
func TestReadErrors(t *testing.T) {
	for _, s := range []string{"\x00", "a\nb \x7f", "a\nb\n" + strings.Repeat("a ", api.MaxWords) + "b", strings.Repeat("a\n", api.MaxLines), strings.Repeat("a", api.MaxText+1)} {
		r := lex.Read(s)
		_, at, e := lex.Lines(s)
		if e == api.OK {
			t.Fatal("no error")
		}
		wantErr(t, s, r, e, at)
		wantNothing(t, r)
	}
}

// Promise 6.3: what More and Lines tell from word to word.
func TestMoreAndLines(t *testing.T) {
	r := lex.Read("a b\n\nc # d\n")
	for _, c := range []struct {
		step  func()
		more  bool
		lines int
	}{
		{func() {}, true, 2}, {func() { r.Word() }, true, 2}, {func() { r.Word() }, false, 2}, {r.Next, true, 1}, {func() { r.Word() }, false, 1}, {r.Next, false, 0}, {r.End, false, 0},
	} {
		c.step()
		if r.More() != c.more || r.Lines() != c.lines {
			t.Fatal(r.More(), r.Lines())
		}
		wantErr(t, "step", r, api.OK, 0)
	}
}

// Promises 6.4 and 6.5: of each call the error, where it is, and that nothing is read behind it.
func TestErrors(t *testing.T) {
	word := func(r *lex.Reader) { r.Word() }
	take := func(s string) func(*lex.Reader) { return func(r *lex.Reader) { r.Take(s) } }
	pick := func(words ...string) func(*lex.Reader) { return func(r *lex.Reader) { r.Pick(words...) } }
	count := func(least, most int) func(*lex.Reader) { return func(r *lex.Reader) { r.Count(least, most) } }
	fail := func(e api.Errno) func(*lex.Reader) { return func(r *lex.Reader) { r.Fail(e) } }
	next, end := (*lex.Reader).Next, (*lex.Reader).End
	type steps []func(*lex.Reader)
	for i, c := range []struct {
		text  string
		steps steps
		why   api.Errno
		place int
	}{
		// A word that lacks: where the line ends, or the text.
		{"", steps{word}, api.ErrEnd, 0}, {" #a", steps{word}, api.ErrEnd, 3}, {"\n\n", steps{word}, api.ErrEnd, 2},
		{"a\nb", steps{word, word}, api.ErrEnd, 1}, {"a  #c\nb", steps{word, word}, api.ErrEnd, 5}, {"a \r\nb", steps{word, word}, api.ErrEnd, 3},
		{"a\n\nb c \n\n", steps{word, next, word, word, word}, api.ErrEnd, 7}, {"a b #", steps{word, word, word}, api.ErrEnd, 5}, {"a\n#\n", steps{word, next, word}, api.ErrEnd, 4},
		{"a\nb", steps{word, take("a")}, api.ErrEnd, 1}, {"a\nb", steps{word, take("")}, api.ErrEnd, 1}, {"a\nb", steps{word, take("b")}, api.ErrEnd, 1},
		{"a \nb", steps{word, pick("a", "b")}, api.ErrEnd, 2}, {"a \nb", steps{word, pick()}, api.ErrEnd, 2}, {"1 \n2", steps{word, count(0, 9)}, api.ErrEnd, 2}, {"#", steps{count(9, 0)}, api.ErrEnd, 1},
		// Another word.
		{" name", steps{take("name")}, api.OK, 0}, {" name", steps{take("Name")}, api.ErrWord, 1}, {" name", steps{take("nam")}, api.ErrWord, 1}, {" name", steps{take("name ")}, api.ErrWord, 1}, {" name", steps{take("")}, api.ErrWord, 1},
		{"a\n b c", steps{word, next, word, take("d")}, api.ErrWord, 5}, {"a b", steps{take("b"), take("a")}, api.ErrWord, 0},
		{" a b", steps{pick("b", "a"), pick("a", "B")}, api.ErrWord, 3}, {" a", steps{pick()}, api.ErrWord, 1}, {" a", steps{pick("")}, api.ErrWord, 1}, {"a", steps{pick("b", "aa", "")}, api.ErrWord, 0},
		// No count, or none that may be.
		{" x", steps{count(0, 9)}, api.ErrForm, 1}, {"1 01", steps{count(0, 9), count(0, 9)}, api.ErrForm, 2}, {"1 10", steps{count(0, 9), count(0, 9)}, api.ErrLimit, 2},
		// Fail is at the word that was read last.
		{"a b", steps{word, fail(api.ErrRange)}, api.ErrRange, 0}, {"a b", steps{word, word, fail(api.ErrArg)}, api.ErrArg, 2}, {" a\n b", steps{word, next, word, fail(api.ErrState)}, api.ErrState, 4},
		{"a b", steps{word, fail(api.OK), word, fail(api.OK)}, api.OK, 0}, {"a b", steps{fail(api.ErrRange)}, api.OK, 0}, {"a\nb", steps{word, next, fail(api.ErrRange)}, api.OK, 0},
		{"a", steps{word, next, fail(api.ErrRange)}, api.OK, 0}, {"", steps{fail(api.ErrRange)}, api.OK, 0}, {"a", steps{word, fail(-7)}, -7, 0}, {" a", steps{word, fail(1000)}, 1000, 1},
		{"a b", steps{word, fail(api.ErrRange), fail(api.ErrForm)}, api.ErrRange, 0}, {"a 7", steps{word, pick("7"), fail(api.ErrRange)}, api.ErrRange, 2}, {"a 7", steps{word, count(7, 7), fail(api.ErrRange)}, api.ErrRange, 2}, {"a b", steps{word, take("b"), fail(api.ErrRange)}, api.ErrRange, 2},
		// Next.
		{" a b", steps{next}, api.ErrMore, 1}, {"a  b\nc", steps{word, next}, api.ErrMore, 3}, {"a\n b", steps{word, next, next}, api.ErrMore, 3}, {"a", steps{word, next}, api.OK, 0}, {"a #\n", steps{word, next, next}, api.ErrEnd, 4}, {" #", steps{next}, api.ErrEnd, 2}, {"", steps{next}, api.ErrEnd, 0},
		// End.
		{"", steps{end}, api.OK, 0}, {"a\n", steps{word, next, end}, api.OK, 0}, {" a", steps{end}, api.ErrMore, 1}, {"a  b", steps{word, end}, api.ErrMore, 3}, {"a # b\n", steps{word, end}, api.ErrMore, 5}, {"a\n\n b", steps{word, next, end}, api.ErrMore, 4},
	} {
		r := lex.Read(c.text)
		for _, step := range c.steps {
			step(r)
		}
		wantErr(t, "case "+strconv.Itoa(i)+": "+c.text, r, c.why, c.place)
		if c.why != api.OK {
			wantNothing(t, r)
		}
	}
}

// Promise 6.4: the words, and which of several one is (of equal ones the first).
func TestWordAndPick(t *testing.T) {
	r := lex.Read("x left right up\nup")
	if s := r.Word(); s != "x" {
		t.Fatal(s)
	}
	if n := r.Pick("right", "left"); n != 1 {
		t.Fatal(n)
	}
	if n := r.Pick("right", "left", "right"); n != 0 {
		t.Fatal(n)
	}
	if n := r.Pick("", "u", "UP", "upp", "up", "up"); n != 4 {
		t.Fatal(n)
	}
	r.Next()
	r.Take("up")
	r.Next()
	r.End()
	wantErr(t, "all", r, api.OK, 0)
}

// Promise 6.4: counts that may be, at their ends.
func TestCount(t *testing.T) {
	for _, c := range []struct {
		text        string
		least, most int
		want        int
	}{
		{"0", 0, 0, 0}, {"0", -5, 5, 0}, {"7", 7, 7, 7}, {"9", 0, 10, 9}, {"10", 0, 10, 10}, {"10", 10, 11, 10}, {"255", 1, 255, 255}, {"1234567890", 0, math.MaxInt, -1},
		{"1000000000", 0, 1000000000, 1000000000}, {"1000000000", math.MinInt, math.MaxInt, 1000000000}, {"999999999", 999999999, 999999999, 999999999}, {"1048576", 0, 1 << 20, 1 << 20},
		{"1000000001", 0, math.MaxInt, -1}, {"1000000001", 1000000001, 1000000001, -1}, {"9223372036854775807", 0, math.MaxInt, -1}, {"9223372036854775808", math.MinInt, math.MaxInt, -1}, {"18446744073709551617", 0, 5, -1}, {"4294967297", 0, 5, -1}, {"1" + strings.Repeat("0", 5000), 0, math.MaxInt, -1},
		{"0", 1, 5, -1}, {"6", 0, 5, -1}, {"4", 5, 9, -1}, {"5", 6, 4, -1}, {"5", 5, 4, -1}, {"5", 6, 5, -1}, {"0", -5, -1, -1}, {"0", math.MaxInt, math.MinInt, -1}, {"1", math.MinInt, 0, -1},
	} {
		r := lex.Read(" " + c.text)
		got := r.Count(c.least, c.most)
		if c.want < 0 {
			if got != 0 {
				t.Fatal(got)
			}
			wantErr(t, c.text, r, api.ErrLimit, 1)
			wantNothing(t, r)
			continue
		}
		if got != c.want {
			t.Fatalf("%s: %d", c.text, got)
		}
		wantErr(t, c.text, r, api.OK, 0)
	}
}

// Promise 6.4: what is no count, also where it would be above most.
func TestCountForm(t *testing.T) {
	for _, s := range []string{"x", "-", "-1", "-0", "+1", "1.0", "1/1", "00", "01", "007", "000000", "0x1", "1e3", "1_0", "1a", "a1", "1-1", "1a1", "99999999999999999999x", "0" + strings.Repeat("9", 5000), "?", "|", "1,000", "/", ":", "9:", "/0"} {
		r := lex.Read("  " + s + " 5")
		if got := r.Count(math.MinInt, math.MaxInt); got != 0 {
			t.Fatalf("%s: %d", s, got)
		}
		wantErr(t, s, r, api.ErrForm, 2)
		wantNothing(t, r)
	}
	for n := range 2000 {
		if got := lex.Read(strconv.Itoa(n)).Count(0, 1999); got != n {
			t.Fatalf("%d: %d", n, got)
		}
	}
}

// Of a nil reader: ErrState, and nothing else; of a Reader that no call made: what an empty text has.
func TestNoReader(t *testing.T) {
	var r *lex.Reader
	wantErr(t, "nil", r, api.ErrState, 0)
	wantNothing(t, r)
	r = new(lex.Reader)
	wantErr(t, "zero", r, api.OK, 0)
	r.Fail(api.ErrRange)
	r.End()
	wantErr(t, "zero", r, api.OK, 0)
	r.Word()
	wantErr(t, "zero", r, api.ErrEnd, 0)
	wantNothing(t, r)
}
