package lex_test

import (
	"regexp"
	"slices"
	"strings"
	"testing"

	"dendron/api"
	"dendron/lex"
)

// dice gives the same numbers on every run.
type dice uint64

func (d *dice) next() uint64 {
	*d = *d*6364136223846793005 + 1442695040888963407
	return uint64(*d) >> 16
}

func (d *dice) below(n int) int {
	return int(d.next() % uint64(n))
}

// text is some bytes of those that letters has.
func (d *dice) text(n int, letters string) string {
	var out strings.Builder
	for range n {
		out.WriteByte(letters[d.below(len(letters))])
	}
	return out.String()
}

var (
	ofWords = regexp.MustCompile(`[!-"$-~]+`)
	mayNot  = regexp.MustCompile(`[^ -~\t\r]`)
)

// wordsBySight finds the words of a line by patterns, what is wrong apart from what is right.
func wordsBySight(s string) ([]api.Token, int, api.Errno) {
	s, _, _ = strings.Cut(s, "#")
	wrong := len(s)
	if at := mayNot.FindStringIndex(s); at != nil {
		wrong = at[0]
	}
	var out []api.Token
	for _, at := range ofWords.FindAllStringIndex(s[:wrong], -1) {
		if len(out) == 4096 {
			return nil, at[0], api.ErrLimit
		}
		out = append(out, api.Token{At: at[0], Text: s[at[0]:at[1]]})
	}
	if wrong < len(s) {
		return nil, wrong, api.ErrForm
	}
	return out, 0, api.OK
}

// linesBySight cuts a text by its bytes 10, and counts places from its beginning on.
func linesBySight(s string) ([][]api.Token, int, api.Errno) {
	if len(s) > 1048576 {
		return nil, 0, api.ErrLong
	}
	var out [][]api.Token
	begin := 0
	for i, text := range strings.Split(s, "\n") {
		words, at, e := wordsBySight(text)
		if i == 16384 {
			at, e = 0, api.ErrLimit
		}
		if e != api.OK {
			return nil, begin + at, e
		}
		for k := range words {
			words[k].At, words[k].Line = words[k].At+begin, i
		}
		if len(words) > 0 {
			out = append(out, words)
		}
		begin += len(text) + 1
	}
	return out, 0, api.OK
}

func short(s string) string {
	if len(s) > 200 {
		return s[:200] + ".."
	}
	return s
}

func wantWords(t *testing.T, s string) {
	t.Helper()
	got, at, e := lex.Words(s)
	want, place, why := wordsBySight(s)
	if !slices.Equal(got, want) || at != place || e != why {
		t.Fatalf("words of %q: %d, at %d, %v; not %d, at %d, %v", short(s), len(got), at, e, len(want), place, why)
	}
}

func sameLines(a, b [][]api.Token) bool {
	return slices.EqualFunc(a, b, slices.Equal[[]api.Token])
}

func wantLines(t *testing.T, s string) {
	t.Helper()
	got, at, e := lex.Lines(s)
	want, place, why := linesBySight(s)
	if !sameLines(got, want) || at != place || e != why {
		t.Fatalf("lines of %q: %d, at %d, %v; not %d, at %d, %v", short(s), len(got), at, e, len(want), place, why)
	}
}

func wantFault(t *testing.T, name string, number, at int, e api.Errno, place int, why api.Errno) {
	t.Helper()
	if number != 0 || at != place || e != why {
		t.Fatalf("%q: %d, at %d, %v; not at %d, %v", short(name), number, at, e, place, why)
	}
}

func wantErr(t *testing.T, name string, r *lex.Reader, why api.Errno, place int) {
	t.Helper()
	if e, at := r.Err(); e != why || at != place {
		t.Fatalf("%q: %v at %d; not %v at %d", short(name), e, at, why, place)
	}
}
