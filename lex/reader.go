package lex

import (
	"slices"
	"strconv"
	"strings"

	"dendron/api"
)

// mostCount bounds what Count reads, whatever its caller would take.
const mostCount = 1_000_000_000

// Reader reads words, line by line; behind its first error it reads nothing more.
type Reader struct {
	lines  []line // those that are left, the one that is read first; none behind an error
	read   int    // how many words of the first line were read
	length int
	err    api.Errno
	at     int
}

// Read is a reader of a text.
func Read(s string) *Reader {
	lines, at, e := linesOf(s)
	return &Reader{lines: lines, length: len(s), err: e, at: at}
}

// Err is the first error, and where it is.
func (r *Reader) Err() (api.Errno, int) {
	if r == nil {
		return api.ErrState, 0
	}
	return r.err, r.at
}

// More tells whether there are more words in the line.
func (r *Reader) More() bool {
	return r.Lines() > 0 && r.read < len(r.lines[0].words)
}

// Lines is how many lines are left, this one too.
func (r *Reader) Lines() int {
	if r == nil {
		return 0
	}
	return len(r.lines)
}

// Word is the next word of the line.
func (r *Reader) Word() string {
	t, _ := r.token()
	return t.Text
}

// Take reads a word that must be that one.
func (r *Reader) Take(word string) {
	if t, ok := r.token(); ok && t.Text != word {
		r.stop(api.ErrWord, t.At)
	}
}

// Pick reads a word that must be one of some; which.
func (r *Reader) Pick(words ...string) int {
	t, ok := r.token()
	if !ok {
		return 0
	}
	i := slices.Index(words, t.Text)
	if i < 0 {
		r.stop(api.ErrWord, t.At)
		return 0
	}
	return i
}

// Count reads a number from least to most, in digits, without one 0 ahead of others.
func (r *Reader) Count(least, most int) int {
	t, ok := r.token()
	if !ok {
		return 0
	}
	if !isCount(t.Text) {
		r.stop(api.ErrForm, t.At)
		return 0
	}
	n, err := strconv.Atoi(t.Text)
	if err != nil || n < least || n > min(most, mostCount) {
		r.stop(api.ErrLimit, t.At)
		return 0
	}
	return n
}

func isCount(s string) bool {
	return strings.Trim(s, "0123456789") == "" && (len(s) == 1 || s[0] != '0')
}

// Fail lets the word that was read last be an error.
func (r *Reader) Fail(e api.Errno) {
	if e != api.OK && r.Lines() > 0 && r.read > 0 {
		r.stop(e, r.lines[0].words[r.read-1].At)
	}
}

// Next goes on to the next line; all words of this one must have been read.
func (r *Reader) Next() {
	switch {
	case !r.reads():
	case r.More():
		r.stop(api.ErrMore, r.here())
	case r.Lines() == 0:
		r.stop(api.ErrEnd, r.here())
	default:
		r.lines, r.read = r.lines[1:], 0
	}
}

// End tells that nothing more may come.
func (r *Reader) End() {
	if r.Lines() > 0 {
		r.stop(api.ErrMore, r.here())
	}
}

// reads tells whether there is a reader, without an error.
func (r *Reader) reads() bool {
	return r != nil && r.err == api.OK
}

// token is the next word of the line; that there is none is an error.
func (r *Reader) token() (api.Token, bool) {
	if !r.reads() {
		return api.Token{}, false
	}
	if !r.More() {
		r.stop(api.ErrEnd, r.here())
		return api.Token{}, false
	}
	r.read++
	return r.lines[0].words[r.read-1], true
}

// here is where the reader stands.
func (r *Reader) here() int {
	switch {
	case r.More():
		return r.lines[0].words[r.read].At
	case r.Lines() > 0:
		return r.lines[0].end
	}
	return r.length
}

// stop keeps an error; the lines go, since nothing is read behind it.
func (r *Reader) stop(e api.Errno, at int) {
	r.err, r.at, r.lines = e, at, nil
}
