package model_test

import (
	"math"
	"slices"
	"strings"
	"testing"

	"dendron/api"
	"dendron/model"
	"dendron/ratio"
)

// Promise 7.2: counts at their limits, and beyond.
func TestFitsCounts(t *testing.T) {
	for _, c := range []struct {
		m    api.Model
		want bool
	}{
		{api.Model{}, true}, {api.Model{Trees: [][]api.Node{}}, true}, {api.Model{Features: 64}, true}, {api.Model{Features: 65}, false}, {api.Model{Features: -1}, false}, {api.Model{Features: math.MinInt}, false}, {api.Model{Features: math.MaxInt}, false},
		{api.Model{Trees: slices.Repeat([][]api.Node{leaves(1)}, 64)}, true}, {api.Model{Trees: slices.Repeat([][]api.Node{leaves(1)}, 65)}, false}, {api.Model{Trees: slices.Repeat([][]api.Node{leaves(255)}, 64)}, true},
		{api.Model{Trees: [][]api.Node{leaves(255)}}, true}, {api.Model{Trees: [][]api.Node{leaves(256)}}, false}, {api.Model{Trees: [][]api.Node{nil}}, false}, {api.Model{Trees: [][]api.Node{{}}}, false},
		{api.Model{Trees: [][]api.Node{leaves(1), leaves(1), nil}}, false}, {api.Model{Trees: [][]api.Node{leaves(1), leaves(256), leaves(1)}}, false}, {api.Model{Trees: [][]api.Node{{{}}}}, true},
	} {
		wantFits(t, c.m, c.want)
	}
}

func wantFits(t *testing.T, m api.Model, want bool) {
	t.Helper()
	if model.Fits(m) != want {
		t.Fatalf("%v: %v", m, !want)
	}
	s, e := model.Write(m)
	if want && (e != api.OK || s != writtenBySight(m)) || !want && (e != api.ErrArg || s != "") {
		t.Fatalf("%v: %q, %v", m, short(s), e)
	}
}

// Promise 7.2: what each node names, splits and leaves, the first, the last, in each tree.
func TestFitsNodes(t *testing.T) {
	for _, leaf := range []bool{false, true} {
		for at := range 4 {
			try := func(n api.Node, want bool) {
				t.Helper()
				n.Leaf = leaf
				trees := [][]api.Node{leaves(2), make([]api.Node, 2)}
				trees[at/2][at%2] = n
				wantFits(t, api.Model{Features: 3, Trees: trees}, want)
			}
			for _, n := range []int{0, 1, 63, 64} {
				try(api.Node{Feature: n}, true)
			}
			for _, n := range []int{-1, 65, 255, 1 << 32, math.MinInt, math.MaxInt} {
				try(api.Node{Feature: n}, false)
			}
			for _, n := range []int{0, 1, 64, 65, 254, 255} {
				try(api.Node{Left: n}, true)
				try(api.Node{Right: n}, true)
			}
			for _, n := range []int{-1, 256, 1 << 32, math.MinInt, math.MaxInt} {
				try(api.Node{Left: n}, false)
				try(api.Node{Right: n}, false)
			}
		}
	}
}

// Promise 7.2: texts by hand; example 1; numbers of all forms, and fields that a kind has not.
func TestWrite(t *testing.T) {
	if s := mustWrite(t, api.Model{}); s != none {
		t.Fatalf("%q", s)
	}
	if s := mustWrite(t, smallModel()); s != small {
		t.Fatalf("%q", s)
	}
	m := api.Model{Features: 1, Trees: [][]api.Node{{
		{Feature: 0, Cut: soiled(number("-3/2")), Left: 1, Right: 2, Value: number("9"), Cover: api.Rat{}},
		{Leaf: true, Feature: 64, Cut: number("8"), Left: 255, Right: 7, Miss: true, Value: soiled(number("0")), Cover: soiled(number("18446744073709551616"))},
	}}}
	want := "dendron 1\nfeatures 1\ntrees 1\ntree 2\nsplit 0 -3/2 1 2 miss-right 0\nleaf 0 18446744073709551616\nend\n"
	if s := mustWrite(t, m); s != want {
		t.Fatalf("%q", s)
	}
}

// Promise 7.2: models by chance, held against a writer by other means.
func TestWriteByChance(t *testing.T) {
	d := dice(5)
	for range 5000 {
		wantFits(t, d.anyModel(4, 6), true)
	}
}

// wantTidy asks for the same model, by each field that a kind has, and for nothing else.
func wantTidy(t *testing.T, m api.Model) {
	t.Helper()
	got := model.Tidy(m)
	if got.Features != m.Features || len(got.Trees) != len(m.Trees) {
		t.Fatalf("%v of %v", got, m)
	}
	for i, tree := range m.Trees {
		if len(got.Trees[i]) != len(tree) {
			t.Fatalf("tree %d: %v of %v", i, got, m)
		}
		for k, n := range tree {
			want := api.Node{Leaf: n.Leaf, Cover: number(toBig(n.Cover))}
			if n.Leaf {
				want.Value = number(toBig(n.Value))
			} else {
				want.Feature, want.Cut, want.Left, want.Right, want.Miss = n.Feature, number(toBig(n.Cut)), n.Left, n.Right, n.Miss
			}
			if !sameNode(got.Trees[i][k], want) {
				t.Fatalf("tree %d, node %d: %v, not %v", i, k, got.Trees[i][k], want)
			}
		}
	}
	if !sameModel(model.Tidy(got), got) {
		t.Fatalf("%v is not tidy", got)
	}
}

// Promise 7.2: Tidy of models by chance, and of those that do not fit.
func TestTidy(t *testing.T) {
	d := dice(9)
	for range 3000 {
		wantTidy(t, d.anyModel(4, 6))
	}
	wantTidy(t, api.Model{})
	wantTidy(t, smallModel())
	wantTidy(t, api.Model{Features: -5, Trees: [][]api.Node{nil, {}, leaves(300), {{Feature: -1, Left: math.MinInt, Right: math.MaxInt, Miss: true}, {Leaf: true, Feature: 99, Left: -1, Right: 1 << 40}}}})
	wantTidy(t, api.Model{Features: math.MaxInt, Trees: slices.Repeat([][]api.Node{leaves(1)}, 100)})
}

// Promise 7.3: what is written is read, tidy; and that as the same again.
func TestReadOfWrite(t *testing.T) {
	d := dice(11)
	for range 5000 {
		m := d.anyModel(5, 8)
		wantRead(t, mustWrite(t, m), model.Tidy(m))
	}
	long := number(strings.Repeat("7", 10000) + "/1" + strings.Repeat("0", 9999))
	m := api.Model{Trees: [][]api.Node{{{Leaf: true, Value: long, Cover: ratio.Neg(long)}, {Cut: long, Cover: ratio.One()}}}}
	wantRead(t, mustWrite(t, m), m)
}

// Promise 7.3: what is read fits, is tidy, and is written and read as the same.
func TestWriteOfRead(t *testing.T) {
	d := dice(13)
	read := 0
	for range 20000 {
		m, f := model.Read(d.changedText(d.below(2)))
		if f.Err != api.OK {
			continue
		}
		read++
		if !model.Fits(m) || !sameModel(m, model.Tidy(m)) {
			t.Fatal(m)
		}
		wantRead(t, mustWrite(t, m), m)
	}
	if read < 1000 {
		t.Fatal(read)
	}
}

// wide is a model of 64 trees, of so many nodes in all: at most 255 a tree.
func wide(nodes int) api.Model {
	m := api.Model{Features: 64}
	for left := 64; left > 0; left-- {
		n := min(255, nodes-left+1)
		m.Trees = append(m.Trees, leaves(n))
		nodes -= n
	}
	return m
}

// Promises 7.1 and 7.2: as many lines as a text may have are read; all that fits is written, also in more lines than are read, or in more digits, or bytes.
func TestLimitsOfTexts(t *testing.T) {
	most := wide(api.MaxLines - 1 - 64 - 4)
	s := mustWrite(t, most)
	if strings.Count(s, "\n") != api.MaxLines-1 {
		t.Fatal(strings.Count(s, "\n"))
	}
	wantRead(t, s, most)
	more := wide(api.MaxLines - 64 - 4)
	s = mustWrite(t, more)
	wantFault(t, s, api.ErrLimit, len(s))
	wantRead(t, s[:len(s)-1], more)
	s = mustWrite(t, wide(64*255))
	if s != writtenBySight(wide(64*255)) {
		t.Fatal("another text")
	}
	wantFault(t, s, api.ErrLimit, len(strings.Join(strings.SplitAfter(s, "\n")[:api.MaxLines], "")))
	point := "dendron 1\nfeatures 0\ntrees 1\ntree 1\nleaf 0."
	m, f := model.Read(point + strings.Repeat("0", 9999) + "1 1\nend")
	if f != (api.Fault{}) {
		t.Fatal(f)
	}
	s = mustWrite(t, m)
	wantFault(t, s, api.ErrDigits, len(point)-2)
	long := number("1" + strings.Repeat("0", 9999))
	m = api.Model{Trees: [][]api.Node{slices.Repeat([]api.Node{{Leaf: true, Value: long, Cover: long}}, 60)}}
	wantFits(t, m, true)
	wantFault(t, mustWrite(t, m), api.ErrLong, 0)
}
