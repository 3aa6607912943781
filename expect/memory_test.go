package expect_test

import (
	"slices"
	"testing"

	"dendron/api"
	"dendron/expect"
	"dendron/ratio"
)

// wholeRat is a copy of a number with what lies behind its lists' ends; so of models and rows.
func wholeRat(a api.Rat) api.Rat {
	limbs := func(l api.Nat) api.Nat { return slices.Clone(l[:cap(l)]) }
	return api.Rat{Num: api.Int{Neg: a.Num.Neg, Abs: limbs(a.Num.Abs)}, Den: limbs(a.Den)}
}

func wholeModel(m api.Model) api.Model {
	out := api.Model{Features: m.Features}
	for _, t := range m.Trees[:cap(m.Trees)] {
		nodes := slices.Clone(t[:cap(t)])
		for i, n := range nodes {
			nodes[i].Cut, nodes[i].Value, nodes[i].Cover = wholeRat(n.Cut), wholeRat(n.Value), wholeRat(n.Cover)
		}
		out.Trees = append(out.Trees, nodes)
	}
	return out
}

func wholeRow(l []api.Cell) []api.Cell {
	out := slices.Clone(l[:cap(l)])
	for i, c := range out {
		out[i].Value = wholeRat(c.Value)
	}
	return out
}

func sameModel(a, b api.Model) bool {
	sameNode := func(a, b api.Node) bool {
		same := sameLimbs(a.Cut, b.Cut) && sameLimbs(a.Value, b.Value) && sameLimbs(a.Cover, b.Cover)
		return same && a.Leaf == b.Leaf && a.Feature == b.Feature && a.Left == b.Left && a.Right == b.Right && a.Miss == b.Miss
	}
	return a.Features == b.Features && slices.EqualFunc(a.Trees, b.Trees, func(s, t []api.Node) bool { return slices.EqualFunc(s, t, sameNode) })
}

func sameRow(a, b []api.Cell) bool {
	return slices.EqualFunc(a, b, func(a, b api.Cell) bool { return a.Missing == b.Missing && sameLimbs(a.Value, b.Value) })
}

// roomModel is the same model with memory behind the ends of its lists, one of them standing in two places.
func roomModel(m api.Model) api.Model {
	trees := slices.Clone(m.Trees)
	for i, t := range trees {
		trees[i] = append(slices.Clone(t), api.Node{Feature: 77}, api.Node{Left: 88})[:len(t)]
	}
	if len(trees) > 1 {
		trees[1] = trees[0]
	}
	return api.Model{Features: m.Features, Trees: append(trees, []api.Node{leaf("7", "7")})[:len(trees)]}
}

func roomRow(l []api.Cell) []api.Cell {
	return append(slices.Clone(l), api.Cell{Missing: true}, api.Cell{Value: number("77")})[:len(l)]
}

func writeOver(a api.Rat) {
	for _, l := range []api.Nat{a.Num.Abs[:cap(a.Num.Abs)], a.Den[:cap(a.Den)]} {
		for i := range l {
			l[i] = 1<<64 - 1
		}
	}
}

// spoil writes over all that a list of numbers reaches, from behind; whether the numbers ahead stayed each time.
func spoil(l []api.Rat) bool {
	keep := ratio.Texts(l)
	for i, x := range slices.Backward(l) {
		writeOver(x)
		if !slices.Equal(ratio.Texts(l[:i]), keep[:i]) {
			return false
		}
	}
	clear(l[:cap(l)])
	return true
}

// answers are all numbers that are answered of a model and a row.
func answers(m api.Model, r []api.Cell, set uint64) []api.Rat {
	x, _ := expect.Value(m, r, set)
	y, _ := expect.Value(m, r, 1<<64-1)
	base, _ := expect.Base(m)
	table, _ := expect.Table(m, r)
	out := append([]api.Rat{x, y, base}, table...)
	for _, t := range m.Trees {
		nodes, _ := expect.Nodes(t, m.Features)
		out = append(out, nodes...)
		legs, _ := expect.Legs(t, r)
		for _, l := range legs {
			out = append(out, l.Value, expect.Reach(l, set), expect.Reach(l, 0))
			for _, p := range l.Parts {
				out = append(out, p.Share)
			}
		}
	}
	return out
}

// Rule R3: models and rows stay as they are, also behind their ends, and nothing hangs on what is answered.
func TestArgumentsStay(t *testing.T) {
	d := dice(41)
	for range 600 {
		m := roomModel(d.anyModel(3, 4))
		r := roomRow(d.anyRow(m.Features))
		keep, keepR := wholeModel(m), wholeRow(r)
		if !spoil(answers(m, r, d.anySet())) {
			t.Fatalf("numbers that were answered of %v hang together", m)
		}
		if !sameModel(wholeModel(m), keep) || !sameRow(wholeRow(r), keepR) {
			t.Fatalf("%v or %v has turned", m, r)
		}
	}
}

// Rule R3: what was answered stays, when what was handed in is written over.
func TestAnswersStay(t *testing.T) {
	d := dice(43)
	for range 1000 {
		m := d.anyModel(3, 4)
		r := d.anyRow(m.Features)
		got := answers(m, r, d.anySet())
		want := ratio.Texts(got)
		for _, tree := range m.Trees {
			for _, n := range tree {
				writeOver(n.Value)
				writeOver(n.Cut)
				writeOver(n.Cover)
			}
			clear(tree)
		}
		for _, c := range r {
			writeOver(c.Value)
		}
		if !slices.Equal(ratio.Texts(got), want) {
			t.Fatalf("%v has turned, was %q", got, want)
		}
	}
}

// Rule R3: no leg's parts stand in the memory of another's, nor behind their end.
func TestLegsHaveTheirOwn(t *testing.T) {
	d := dice(47)
	for range 1000 {
		features := 1 + d.below(4)
		tree, r := d.anyTree(1+d.below(8), features), d.anyRow(features)
		got, _ := expect.Legs(tree, r)
		want, _ := expect.Legs(tree, r)
		for i, l := range got {
			for _, p := range l.Parts {
				writeOver(p.Share)
			}
			writeOver(l.Value)
			clear(l.Parts[:cap(l.Parts)])
			if !slices.EqualFunc(got[i+1:], want[i+1:], sameLeg) {
				t.Fatalf("legs of %v hang together", tree)
			}
		}
	}
}

// Rule R3: a leg stays as it is, also behind its end.
func TestReachLeavesLeg(t *testing.T) {
	d := dice(53)
	for range 2000 {
		var parts []api.Part
		for range 6 {
			parts = append(parts, api.Part{Feature: d.below(70) - 3, Share: d.anyNumber(), Ok: d.below(3) > 0})
		}
		l := api.Leg{Value: d.anyNumber(), Parts: parts[:d.below(7)]}
		keep := api.Leg{Value: wholeRat(l.Value), Parts: slices.Clone(parts)}
		for i, p := range parts {
			keep.Parts[i].Share = wholeRat(p.Share)
		}
		set := d.anySet()
		x := expect.Reach(l, set)
		text := ratio.Print(x)
		writeOver(x)
		after := api.Leg{Value: wholeRat(l.Value), Parts: slices.Clone(parts)}
		for i, p := range parts {
			after.Parts[i].Share = wholeRat(p.Share)
		}
		if !sameLeg(keep, after) || ratio.Print(expect.Reach(l, set)) != text {
			t.Fatalf("%v has turned", l)
		}
	}
}

// Rule R4: the same is answered again, also where an earlier answer was written over.
func TestAnswersAgain(t *testing.T) {
	m, r := three(), row("1/2 ?")
	want := ratio.Texts(answers(m, r, 1))
	for range 3 {
		got := answers(m, r, 1)
		if !slices.Equal(ratio.Texts(got), want) {
			t.Fatalf("%q, not %q", ratio.Texts(got), want)
		}
		spoil(got)
	}
}
