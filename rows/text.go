package rows

import (
	"strings"

	"dendron/api"
	"dendron/lex"
	"dendron/ratio"
)

// The words that are no numbers, and what stands between words.
const (
	wordMissing = "?"
	wordBar     = "|"
	blank       = " "
)

// Cell is the entry that a word is: a number, or ? where it is missing.
func Cell(s string) (api.Cell, api.Errno) {
	if s == wordMissing {
		return api.Cell{Missing: true}, api.OK
	}
	value, e := ratio.Parse(s)
	return api.Cell{Value: value}, e
}

// Words are the entries that words are; or where, and why, the first is none.
func Words(l []api.Token) ([]api.Cell, int, api.Errno) {
	out := make([]api.Cell, len(l))
	for i, word := range l {
		c, e := Cell(word.Text)
		if e != api.OK {
			return nil, word.At, e
		}
		out[i] = c
	}
	return out, 0, api.OK
}

// Row is the row that a line is.
func Row(s string) ([]api.Cell, int, api.Errno) {
	words, at, e := lex.Words(s)
	if e != api.OK {
		return nil, at, e
	}
	return Words(words)
}

// Split is words cut where one is a bar; of no words there is no part.
func Split(l []api.Token) [][]api.Token {
	if len(l) == 0 {
		return nil
	}
	// Parts grow one by one, not as pieces of one list: what is appended to one must not be written into the next.
	out := [][]api.Token{nil}
	for _, word := range l {
		last := len(out) - 1
		if word.Text == wordBar {
			out = append(out, nil)
		} else {
			out[last] = append(out[last], word)
		}
	}
	return out
}

// Rows are the rows that a line is, with a bar between two.
func Rows(s string) ([][]api.Cell, int, api.Errno) {
	words, at, e := lex.Words(s)
	if e != api.OK {
		return nil, at, e
	}
	var out [][]api.Cell
	for _, part := range Split(words) {
		row, at, e := Words(part)
		if e != api.OK {
			return nil, at, e
		}
		out = append(out, row)
	}
	return out, 0, api.OK
}

// Print is an entry as a word.
func Print(c api.Cell) string {
	if c.Missing {
		return wordMissing
	}
	return ratio.Print(c.Value)
}

// Write is a row as a line.
func Write(l []api.Cell) string {
	words := make([]string, len(l))
	for i, c := range l {
		words[i] = Print(c)
	}
	return strings.Join(words, blank)
}

// WriteAll is rows as a line, with a bar between two.
func WriteAll(l [][]api.Cell) string {
	texts := make([]string, len(l))
	for i, row := range l {
		texts[i] = Write(row)
	}
	return strings.Join(texts, blank+wordBar+blank)
}
