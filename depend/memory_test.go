package depend_test

import (
	"slices"
	"testing"

	"dendron/api"
	"dendron/depend"
	"dendron/ratio"
)

// wholeRat is a copy of a number with what lies behind its lists' ends; so of models and rows.
func wholeRat(a api.Rat) api.Rat {
	limbs := func(l api.Nat) api.Nat { return slices.Clone(l[:cap(l)]) }
	return api.Rat{Num: api.Int{Neg: a.Num.Neg, Abs: limbs(a.Num.Abs)}, Den: limbs(a.Den)}
}

func wholeModel(m api.Model) api.Model {
	out := api.Model{Features: m.Features}
	for _, t := range m.Trees[:cap(m.Trees)] {
		nodes := slices.Clone(t[:cap(t)])
		for i, n := range nodes {
			nodes[i].Cut, nodes[i].Value, nodes[i].Cover = wholeRat(n.Cut), wholeRat(n.Value), wholeRat(n.Cover)
		}
		out.Trees = append(out.Trees, nodes)
	}
	return out
}

func wholeRow(l []api.Cell) []api.Cell {
	out := slices.Clone(l[:cap(l)])
	for i, c := range out {
		out[i].Value = wholeRat(c.Value)
	}
	return out
}

func wholeRows(l [][]api.Cell) [][]api.Cell {
	var out [][]api.Cell
	for _, r := range l[:cap(l)] {
		out = append(out, wholeRow(r))
	}
	return out
}

func sameModel(a, b api.Model) bool {
	sameNode := func(a, b api.Node) bool {
		same := sameLimbs(a.Cut, b.Cut) && sameLimbs(a.Value, b.Value) && sameLimbs(a.Cover, b.Cover)
		return same && a.Leaf == b.Leaf && a.Feature == b.Feature && a.Left == b.Left && a.Right == b.Right && a.Miss == b.Miss
	}
	return a.Features == b.Features && slices.EqualFunc(a.Trees, b.Trees, func(s, t []api.Node) bool { return slices.EqualFunc(s, t, sameNode) })
}

func sameRow(a, b []api.Cell) bool {
	return slices.EqualFunc(a, b, func(a, b api.Cell) bool { return a.Missing == b.Missing && sameLimbs(a.Value, b.Value) })
}

func sameRows(a, b [][]api.Cell) bool {
	return slices.EqualFunc(a, b, sameRow)
}

// roomModel is the same model with memory behind the ends of its lists, one of them standing in two places.
func roomModel(m api.Model) api.Model {
	trees := slices.Clone(m.Trees)
	for i, t := range trees {
		trees[i] = append(slices.Clone(t), api.Node{Feature: 77}, api.Node{Left: 88})[:len(t)]
	}
	if len(trees) > 1 {
		trees[1] = trees[0]
	}
	return api.Model{Features: m.Features, Trees: append(trees, []api.Node{leaf("7", "7")})[:len(trees)]}
}

func roomRow(l []api.Cell) []api.Cell {
	return append(slices.Clone(l), api.Cell{Missing: true}, api.Cell{Value: number("77")})[:len(l)]
}

// roomRows are the same rows with memory behind their ends, the first of them standing in two places.
func roomRows(l [][]api.Cell) [][]api.Cell {
	var out [][]api.Cell
	for _, r := range l {
		out = append(out, roomRow(r))
	}
	return append(append(out, out[0]), row("5"))[:len(l)+1]
}

func writeOver(a api.Rat) {
	for _, l := range []api.Nat{a.Num.Abs[:cap(a.Num.Abs)], a.Den[:cap(a.Den)]} {
		for i := range l {
			l[i] = 1<<64 - 1
		}
	}
}

func writeOverRow(l []api.Cell) {
	for _, c := range l {
		writeOver(c.Value)
	}
	clear(l)
}

// spoil writes over all that a list of numbers reaches, from behind; whether the limbs of the numbers ahead stayed each time (a 0 that is written over may still be 0).
func spoil(l []api.Rat) bool {
	var keep []api.Rat
	for _, x := range l {
		keep = append(keep, api.Rat{Num: api.Int{Neg: x.Num.Neg, Abs: slices.Clone(x.Num.Abs)}, Den: slices.Clone(x.Den)})
	}
	for i, x := range slices.Backward(l) {
		writeOver(x)
		if !slices.EqualFunc(l[:i], keep[:i], sameLimbs) {
			return false
		}
	}
	clear(l[:cap(l)])
	return true
}

// asked is all that is handed in.
type asked struct {
	m    api.Model
	i    int
	grid []api.Cell
	l    [][]api.Cell
}

func (d *dice) anyAsked() asked {
	m := d.anyModel(3, 4)
	m.Features = max(m.Features, 1)
	return asked{m, d.below(m.Features), append(d.anyRow(d.below(5)), row("1 ? 1 ?")...), d.anyRows(1+d.below(3), m.Features)}
}

// answers are all numbers that are answered, the lists first.
func (a asked) answers() []api.Rat {
	covers, _ := depend.CoverAll(a.m, a.i, a.grid)
	means, _ := depend.AverageAll(a.m, a.i, a.grid, a.l)
	steps, said, missing, _ := depend.Curve(a.m, a.i)
	out := slices.Concat(covers, means, steps, said, []api.Rat{missing})
	for _, z := range a.grid {
		cover, _ := depend.Cover(a.m, a.i, z)
		mean, _ := depend.Average(a.m, a.i, z, a.l)
		out = append(out, cover, mean)
	}
	for _, l := range [][]api.Rat{covers, means, steps, said} {
		clear(l[:cap(l)])
	}
	return out
}

// Rule R3: what is handed in stays as it is, also behind its ends, and nothing hangs on what is answered.
func TestArgumentsStay(t *testing.T) {
	d := dice(41)
	for range 1500 {
		a := d.anyAsked()
		a.m, a.grid, a.l = roomModel(a.m), roomRow(a.grid), roomRows(a.l)
		keep := asked{wholeModel(a.m), a.i, wholeRow(a.grid), wholeRows(a.l)}
		if !spoil(a.answers()) {
			t.Fatalf("numbers that were answered of %v hang together", a)
		}
		depend.At([]api.Rat{a.grid[0].Value, a.grid[0].Value}, a.grid[0].Value)
		if !sameModel(wholeModel(a.m), keep.m) || !sameRow(wholeRow(a.grid), keep.grid) || !sameRows(wholeRows(a.l), keep.l) {
			t.Fatalf("%v has turned", a)
		}
	}
}

// Rule R3: what was answered stays, when what was handed in is written over.
func TestAnswersStay(t *testing.T) {
	d := dice(43)
	for range 1500 {
		a := d.anyAsked()
		got := a.answers()
		want := ratio.Texts(got)
		for _, tree := range a.m.Trees {
			for _, n := range tree {
				writeOver(n.Value)
				writeOver(n.Cut)
				writeOver(n.Cover)
			}
			clear(tree)
		}
		writeOverRow(a.grid)
		for _, r := range a.l {
			writeOverRow(r)
		}
		if !slices.Equal(ratio.Texts(got), want) {
			t.Fatalf("%v has turned, was %q", got, want)
		}
	}
}

// Rule R4: the same is answered again, also where an earlier answer was written over.
func TestAnswersAgain(t *testing.T) {
	a := asked{three(), 1, row("5 ? 0 -1 0"), table("0 1 | 1 ?")}
	want := ratio.Texts(a.answers())
	for range 3 {
		got := a.answers()
		if !slices.Equal(ratio.Texts(got), want) {
			t.Fatalf("%q, not %q", ratio.Texts(got), want)
		}
		spoil(got)
	}
}
