package model_test

import (
	"slices"
	"strconv"
	"strings"
	"testing"

	"dendron/api"
	"dendron/model"
	"dendron/ratio"
)

const (
	none  = "dendron 1\nfeatures 0\ntrees 0\nend\n"
	small = "dendron 1\nfeatures 2\ntrees 2\ntree 3\nsplit 1 1/2 1 2 miss-left 4\nleaf 0 1\nleaf -1/2 3\ntree 1\nsplit 0 -7 2 1 miss-right 5/3\nend\n"
)

func smallModel() api.Model {
	return api.Model{Features: 2, Trees: [][]api.Node{
		{
			{Feature: 1, Cut: number("1/2"), Left: 1, Right: 2, Miss: true, Cover: number("4")},
			{Leaf: true, Value: number("0"), Cover: number("1")},
			{Leaf: true, Value: number("-1/2"), Cover: number("3")},
		},
		{{Cut: number("-7"), Left: 2, Right: 1, Cover: number("5/3")}},
	}}
}

// Promise 7.1: models by hand; example 1.
func TestRead(t *testing.T) {
	wantRead(t, none, api.Model{})
	wantRead(t, small, smallModel())
	wantRead(t, "dendron 1\nfeatures 64\ntrees 0\nend", api.Model{Features: 64})
	for _, s := range []string{
		strings.TrimSuffix(small, "\n"),
		strings.ReplaceAll(small, "\n", "\r\n"),
		strings.ReplaceAll(small, "\n", " # say \x00\xff what you want\n\n \t# and more\n"),
		strings.ReplaceAll(small, " ", " \t\r  "),
		"\n#\n" + small + "\n\n# no more\n \r",
		strings.NewReplacer("1/2 1", "0.50 1", "-1/2", "-2/4", "5/3", "10/6", "-7", "-007.000", "leaf 0 1", "leaf -0 1").Replace(small),
	} {
		wantRead(t, s, smallModel())
	}
}

// Promise 7.1: what may not be (valid asks, not Read): features that there are not, children that there are not, covers of 0 and below.
func TestReadAsksForNoTree(t *testing.T) {
	wantRead(t, "dendron 1\nfeatures 0\ntrees 1\ntree 1\nsplit 64 0 0 255 miss-right -1\nend", api.Model{Trees: [][]api.Node{{{Feature: 64, Cut: ratio.Zero(), Right: 255, Cover: number("-1")}}}})
	wantRead(t, "dendron 1\nfeatures 0\ntrees 1\ntree 1\nleaf 5 0\nend", api.Model{Trees: [][]api.Node{{{Leaf: true, Value: number("5"), Cover: ratio.Zero()}}}})
}

// edited are the words of a text, one of its words another one; and where that stands.
func edited(s string, word int, by string) (string, int) {
	words, at, n := lineWords(s), 0, 0
	var out strings.Builder
	for _, line := range words {
		for i, w := range line {
			if i > 0 {
				out.WriteByte(' ')
			}
			if n == word {
				at, w = out.Len(), by
			}
			out.WriteString(w)
			n++
		}
		out.WriteByte('\n')
	}
	return out.String(), at
}

func lineWords(s string) [][]string {
	var out [][]string
	for line := range strings.Lines(s) {
		out = append(out, strings.Fields(line))
	}
	return out
}

// Promise 7.1: each word of a text in turn, as another one: the error of its kind (a name, a count, a number), at its place.
func TestReadEachWord(t *testing.T) {
	const kinds = "nn nc nc nc ncrccnr nrr nrr nc ncrccnr n"
	others := map[rune]map[string]api.Errno{
		'n': {"x": api.ErrWord, "01": api.ErrWord, "1.0": api.ErrWord, "2": api.ErrWord, "end.": api.ErrWord, "Leaf": api.ErrWord, "SPLIT": api.ErrWord, "miss": api.ErrWord, "left": api.ErrWord},
		'c': {"x": api.ErrForm, "-1": api.ErrForm, "01": api.ErrForm, "+1": api.ErrForm, "1.0": api.ErrForm, "1/1": api.ErrForm, "256": api.ErrLimit, "4294967297": api.ErrLimit, "18446744073709551617": api.ErrLimit},
		'r': {"x": api.ErrForm, "1/": api.ErrForm, "/2": api.ErrForm, "--1": api.ErrForm, "1.": api.ErrForm, "+1": api.ErrForm, "1/-2": api.ErrForm, "1/0": api.ErrZero, "-1/00": api.ErrZero, strings.Repeat("1", 10001): api.ErrDigits, "1/" + strings.Repeat("0", 10001): api.ErrDigits},
	}
	plain := strings.ReplaceAll(kinds, " ", "")
	if len(plain) != len(strings.Fields(small)) {
		t.Fatal("not each word is told")
	}
	for i, kind := range plain {
		for by, why := range others[kind] {
			s, at := edited(small, i, by)
			wantFault(t, s, why, at)
		}
	}
}

// Promise 7.1: each line ends where it has to: not ahead, not behind.
func TestReadLineEnds(t *testing.T) {
	lines := strings.SplitAfter(strings.TrimSuffix(small, "\n"), "\n")
	at := 0
	for i, line := range lines {
		ahead, behind, line := strings.Join(lines[:i], ""), strings.Join(lines[i+1:], ""), strings.TrimSuffix(line, "\n")
		wantFault(t, ahead, api.ErrEnd, at)
		wantFault(t, ahead+"# no\n", api.ErrEnd, at+5)
		wantFault(t, ahead+line+"  more #\n"+behind, api.ErrMore, at+len(line)+2)
		wantFault(t, ahead+line+" 1 2\n"+behind, api.ErrMore, at+len(line)+1)
		words := strings.Fields(line)
		for n := 1; n < len(words); n++ {
			cut := strings.Join(words[:n], " ")
			wantFault(t, ahead+cut+"\n"+behind, api.ErrEnd, at+len(cut))
			wantFault(t, ahead+cut+" \t# \n"+behind, api.ErrEnd, at+len(cut)+4)
			wantFault(t, ahead+cut, api.ErrEnd, at+len(cut))
		}
		at += len(line) + 1
	}
	for _, c := range []struct {
		more string
		at   int
	}{{"x", 0}, {"end", 0}, {"dendron 1", 0}, {"# no\n end", 6}, {"\n\ntree 1\nleaf 0 1\nend", 2}} {
		wantFault(t, small+c.more, api.ErrMore, len(small)+c.at)
	}
	wantFault(t, "", api.ErrEnd, 0)
	wantFault(t, " # no\n", api.ErrEnd, 6)
}

func countsText(features, trees, nodes, feature, left, right int) string {
	one := "tree 1\nleaf 0 1\n"
	out := "dendron 1\nfeatures " + strconv.Itoa(features) + "\ntrees " + strconv.Itoa(trees) + "\ntree " + strconv.Itoa(nodes) + "\n"
	out += "split " + strconv.Itoa(feature) + " 0 " + strconv.Itoa(left) + " " + strconv.Itoa(right) + " miss-left 1\n"
	return out + strings.Repeat("leaf 0 1\n", max(nodes-1, 0)) + strings.Repeat(one, max(trees-1, 0)) + "end\n"
}

// Promise 7.1: counts at their limits, and beyond.
func TestReadCounts(t *testing.T) {
	for _, c := range []struct {
		counts [6]int
		at     int // 0, if it may be
	}{
		{[6]int{0, 1, 1, 0, 0, 0}, 0}, {[6]int{64, 64, 1, 64, 255, 255}, 0}, {[6]int{64, 1, 255, 64, 255, 255}, 0},
		{[6]int{65, 1, 1, 0, 0, 0}, 19}, {[6]int{0, 65, 1, 0, 0, 0}, 27}, {[6]int{0, 1, 256, 0, 0, 0}, 34}, {[6]int{0, 1, 0, 0, 0, 0}, 34},
		{[6]int{0, 1, 1, 65, 0, 0}, 42}, {[6]int{0, 1, 1, 0, 256, 0}, 46}, {[6]int{0, 1, 1, 0, 0, 256}, 48},
	} {
		n := c.counts
		s := countsText(n[0], n[1], n[2], n[3], n[4], n[5])
		if c.at > 0 {
			wantFault(t, s, api.ErrLimit, c.at)
			continue
		}
		m, f := model.Read(s)
		if f != (api.Fault{}) || m.Features != n[0] || len(m.Trees) != n[1] || len(m.Trees[0]) != n[2] || !model.Fits(m) || mustWrite(t, m) != s {
			t.Fatalf("%v: %v", n, f)
		}
		if a := m.Trees[0][0]; a.Feature != n[3] || a.Left != n[4] || a.Right != n[5] {
			t.Fatal(a)
		}
	}
}

// Promise 7.1: fewer or more trees and nodes than were told.
func TestReadOtherCounts(t *testing.T) {
	wantFault(t, strings.Replace(small, "tree 3", "tree 2", 1), api.ErrWord, strings.Index(small, "leaf -1/2"))
	wantFault(t, strings.Replace(small, "tree 3", "tree 4", 1), api.ErrWord, strings.Index(small, "tree 1"))
	wantFault(t, strings.Replace(small, "trees 2", "trees 1", 1), api.ErrWord, strings.Index(small, "tree 1"))
	wantFault(t, strings.Replace(small, "trees 2", "trees 3", 1), api.ErrWord, strings.LastIndex(small, "end"))
	wantFault(t, strings.Replace(small, "trees 2", "trees 0", 1), api.ErrWord, strings.Index(small, "tree 3"))
	wantFault(t, strings.Replace(small, "tree 1", "tree 2", 1), api.ErrWord, strings.LastIndex(small, "end"))
	wantFault(t, strings.Replace(small, "leaf 0", "split 0", 1), api.ErrEnd, strings.Index(small, "\nleaf -1/2")+1)
	wantFault(t, strings.Replace(small, "split 1", "leaf 1", 1), api.ErrMore, strings.Index(small, "1 2 miss")-1)
}

// Promise 7.1: what the words may not be comes ahead of which they are; its place is that in the text.
func TestReadErrorsOfLex(t *testing.T) {
	for _, c := range []struct {
		text string
		why  api.Errno
		at   int
	}{
		{"x\n\x01", api.ErrForm, 2}, {small + "\x7f", api.ErrForm, len(small)}, {"dendron\xa01", api.ErrForm, 7},
		{strings.Repeat(" ", api.MaxText+1), api.ErrLong, 0}, {small + strings.Repeat("\x01", api.MaxText), api.ErrLong, 0},
		{"x " + strings.Repeat("a ", api.MaxWords), api.ErrLimit, 2 * api.MaxWords}, {"x" + strings.Repeat("\n", api.MaxLines), api.ErrLimit, api.MaxLines + 1},
	} {
		wantFault(t, c.text, c.why, c.at)
	}
	wantRead(t, small+strings.Repeat(" ", api.MaxText-len(small)), smallModel())
	wantRead(t, strings.Repeat("\n", api.MaxLines-12)+small[:len(small)-1], smallModel())
}

// Promise 7.1: of several errors the first.
func TestReadFirstError(t *testing.T) {
	wantFault(t, "Dendron 2 3\n", api.ErrWord, 0)
	wantFault(t, "dendron 2 3\n", api.ErrWord, 8)
	wantFault(t, "dendron 1 3\nfeatures x", api.ErrMore, 10)
	wantFault(t, "dendron 1\nfeatures 65 x\ntrees 65", api.ErrLimit, 19)
	head := "dendron 1\nfeatures 0\ntrees 1\ntree 1\n"
	at := len(head)
	wantFault(t, head+"leaf 1/0 x y", api.ErrZero, at+5)
	wantFault(t, head+"leaf 1 x y", api.ErrForm, at+7)
	wantFault(t, head+"leaf x", api.ErrForm, at+5)
	wantFault(t, head+"leaf 1", api.ErrEnd, at+6)
	wantFault(t, head+"leaf", api.ErrEnd, at+4)
	wantFault(t, head+"split 65 x 256", api.ErrLimit, at+6)
	wantFault(t, head+"split 1 x 256", api.ErrForm, at+8)
	wantFault(t, head+"split 1 1 x 256", api.ErrForm, at+10)
	wantFault(t, head+"split 1 1 1 256 no", api.ErrLimit, at+12)
	wantFault(t, head+"split 1 1 1 1 no x", api.ErrWord, at+14)
	wantFault(t, head+"split 1 1 1 1 miss-left 1/00 x", api.ErrZero, at+24)
}

// changed are lines of which one is another, has gone, or has come; there is at least one, and each has words.
func (d *dice) changed(lines [][]string) [][]string {
	i := d.below(len(lines))
	k := d.below(len(lines[i]))
	word := pickOf(d, "0", "1", "2", "64", "65", "255", "256", "01", "-1", "1/2", "1/0", "1.5", "x", "end", "leaf", "split", "tree", "trees", "features", "dendron", "miss-left", "miss-right", strings.Repeat("7", 10001))
	switch d.below(8) {
	case 0, 1:
		lines[i][k] = word
	case 2:
		if len(lines[i]) > 1 {
			lines[i] = slices.Delete(lines[i], k, k+1)
		}
	case 3:
		lines[i] = slices.Insert(lines[i], k, word)
	case 4:
		lines[i] = append(lines[i], word)
	case 5:
		if len(lines) > 1 {
			lines = slices.Delete(lines, i, i+1)
		}
	case 6:
		lines = slices.Insert(lines, i, slices.Clone(lines[d.below(len(lines))]))
	case 7:
		j := d.below(len(lines))
		lines[i], lines[j] = lines[j], lines[i]
	}
	return lines
}

// changedText is the text of a model by chance, changed so many times, with blanks and remarks; some are cut off.
func (d *dice) changedText(times int) string {
	lines := lineWords(writtenBySight(d.anyModel(3, 3)))
	for range times {
		lines = d.changed(lines)
	}
	var out strings.Builder
	for _, l := range lines {
		out.WriteString(strings.Join(l, pickOf(d, " ", " ", "  ", "\t")) + pickOf(d, "\n", "\n", " \r\n", "#no\n", "\n \n"))
	}
	if d.below(6) == 0 {
		return out.String()[:d.below(out.Len()+1)]
	}
	return out.String()
}

// Promise 7.1: texts by chance, held against a reader that looks at each line alone.
func TestReadByChance(t *testing.T) {
	d := dice(3)
	seen := map[api.Errno]int{}
	for range 30000 {
		s := d.changedText(d.below(3))
		text, fault := readBySight(s)
		m, f := model.Read(s)
		if f != fault {
			t.Fatalf("%q: %v, not %v", short(s), f, fault)
		}
		seen[f.Err]++
		if f.Err != api.OK {
			if !sameModel(m, api.Model{}) {
				t.Fatalf("%q: %v beside %v", short(s), m, f)
			}
		} else if writtenBySight(m) != text {
			t.Fatalf("%q: %v", short(s), m)
		}
	}
	for _, e := range []api.Errno{api.OK, api.ErrZero, api.ErrForm, api.ErrDigits, api.ErrWord, api.ErrEnd, api.ErrMore, api.ErrLimit} {
		if seen[e] < 20 {
			t.Fatalf("%v came %d times", e, seen[e])
		}
	}
}
