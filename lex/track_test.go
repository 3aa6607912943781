package lex_test

import (
	"slices"
	"strconv"
	"strings"
	"testing"

	"dendron/api"
	"dendron/lex"
)

// stop is a place where a reader may stand: a word, the end of a line that has words (no word), or the end of the text (the last).
type stop struct {
	at   int
	word string
}

// track is the one way through a text; a reader that is played goes along it, step by step.
type track struct {
	stops []stop
	i     int
	err   api.Errno
	at    int
}

func trackOf(t *testing.T, s string) *track {
	t.Helper()
	out := &track{}
	begin := 0
	for text := range strings.SplitSeq(s, "\n") {
		words, _, e := wordsBySight(text)
		if e != api.OK {
			t.Fatal("a text without faults is wanted")
		}
		for _, w := range words {
			out.stops = append(out.stops, stop{begin + w.At, w.Text})
		}
		if len(words) > 0 {
			out.stops = append(out.stops, stop{begin + len(text), ""})
		}
		begin += len(text) + 1
	}
	out.stops = append(out.stops, stop{len(s), ""})
	return out
}

func (k *track) more() bool {
	return k.err == api.OK && k.stops[k.i].word != ""
}

func (k *track) last() bool {
	return k.i == len(k.stops)-1
}

func (k *track) lines() int {
	if k.err != api.OK {
		return 0
	}
	n := 0
	for _, s := range k.stops[k.i : len(k.stops)-1] {
		if s.word == "" {
			n++
		}
	}
	return n
}

func (k *track) fault(e api.Errno, i int) {
	if k.err == api.OK {
		k.err, k.at = e, k.stops[i].at
	}
}

func (k *track) word() string {
	if !k.more() {
		k.fault(api.ErrEnd, k.i)
		return ""
	}
	k.i++
	return k.stops[k.i-1].word
}

func (k *track) pick(words ...string) int {
	at := slices.Index(words, k.word())
	if at < 0 {
		k.fault(api.ErrWord, max(k.i-1, 0))
	}
	if k.err != api.OK {
		return 0
	}
	return at
}

func (k *track) count(least, most int) int {
	s := k.word()
	n, err := strconv.Atoi(s)
	if err != nil || strconv.Itoa(n) != s || n < 0 {
		k.fault(api.ErrForm, max(k.i-1, 0))
	} else if n < least || n > most {
		k.fault(api.ErrLimit, k.i-1)
	}
	if k.err != api.OK {
		return 0
	}
	return n
}

func (k *track) fail(e api.Errno) {
	if e != api.OK && k.i > 0 && k.stops[k.i-1].word != "" {
		k.fault(e, k.i-1)
	}
}

func (k *track) next() {
	switch {
	case k.more():
		k.fault(api.ErrMore, k.i)
	case k.last():
		k.fault(api.ErrEnd, k.i)
	case k.err == api.OK:
		k.i++
	}
}

func (k *track) end() {
	if !k.last() {
		k.fault(api.ErrMore, k.i)
	}
}

// step does the same with both; whether they tell the same.
func step(d *dice, r *lex.Reader, k *track) bool {
	switch n := d.below(22); {
	case n < 6 && k.more() || n == 0:
		return r.Word() == k.word()
	case n < 10 && !k.more() || n == 10:
		r.Next()
		k.next()
	case n < 13:
		word := k.stops[k.i].word
		if d.below(12) == 0 {
			word = "b"
		}
		r.Take(word)
		k.pick(word)
	case n < 16 && k.more():
		words := []string{"a", "b", "", "0", "12"}[d.below(5):]
		return r.Pick(words...) == k.pick(words...)
	case n < 18 && k.more():
		least, most := d.below(3)-1, d.below(40)-1
		return r.Count(least, most) == k.count(least, most)
	case n == 18 && d.below(4) == 0:
		r.End()
		k.end()
	case n < 20:
		e := api.Errno(max(0, d.below(30)-20))
		r.Fail(e)
		k.fail(e)
	}
	return true
}

// Promises 6.3 to 6.5: readers of texts by chance, held against one that goes along the text's places.
func TestReaderByChance(t *testing.T) {
	d := dice(7)
	seen := map[api.Errno]int{}
	for _, letters := range []string{"ab ", "a \n", "ab  \n#", "012 \n", "ab012 \r\n\n#"} {
		for range 6000 {
			s := d.text(d.below(24), letters)
			r, k := lex.Read(s), trackOf(t, s)
			for n := range d.below(30) {
				same := step(&d, r, k)
				e, at := r.Err()
				if !same || e != k.err || at != k.at || r.More() != k.more() || r.Lines() != k.lines() {
					t.Fatalf("%q, step %d: %v at %d, %v, %d lines; not %v at %d, %v, %d lines", s, n, e, at, r.More(), r.Lines(), k.err, k.at, k.more(), k.lines())
				}
			}
			seen[k.err]++
		}
	}
	for _, e := range []api.Errno{api.OK, api.ErrForm, api.ErrWord, api.ErrEnd, api.ErrMore, api.ErrLimit, api.ErrRange} {
		if seen[e] < 20 {
			t.Fatalf("%v: %d times only", e, seen[e])
		}
	}
}
