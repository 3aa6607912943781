package linear_test

import (
	"slices"
	"testing"

	"dendron/api"
	"dendron/linear"
	"dendron/ratio"
)

// wholeRat is a copy of a number with what lies behind its lists' ends; so of models and rows.
func wholeRat(a api.Rat) api.Rat {
	limbs := func(l api.Nat) api.Nat { return slices.Clone(l[:cap(l)]) }
	return api.Rat{Num: api.Int{Neg: a.Num.Neg, Abs: limbs(a.Num.Abs)}, Den: limbs(a.Den)}
}

func wholeModel(m api.Model) api.Model {
	out := api.Model{Features: m.Features}
	for _, t := range m.Trees[:cap(m.Trees)] {
		nodes := slices.Clone(t[:cap(t)])
		for i, n := range nodes {
			nodes[i].Cut, nodes[i].Value, nodes[i].Cover = wholeRat(n.Cut), wholeRat(n.Value), wholeRat(n.Cover)
		}
		out.Trees = append(out.Trees, nodes)
	}
	return out
}

func wholeRow(l []api.Cell) []api.Cell {
	out := slices.Clone(l[:cap(l)])
	for i, c := range out {
		out[i].Value = wholeRat(c.Value)
	}
	return out
}

func sameModel(a, b api.Model) bool {
	sameNode := func(a, b api.Node) bool {
		same := sameLimbs(a.Cut, b.Cut) && sameLimbs(a.Value, b.Value) && sameLimbs(a.Cover, b.Cover)
		return same && a.Leaf == b.Leaf && a.Feature == b.Feature && a.Left == b.Left && a.Right == b.Right && a.Miss == b.Miss
	}
	return a.Features == b.Features && slices.EqualFunc(a.Trees, b.Trees, func(s, t []api.Node) bool { return slices.EqualFunc(s, t, sameNode) })
}

func sameRow(a, b []api.Cell) bool {
	return slices.EqualFunc(a, b, func(a, b api.Cell) bool { return a.Missing == b.Missing && sameLimbs(a.Value, b.Value) })
}

// roomModel is the same model with memory behind the ends of its lists, one of them standing in two places.
func roomModel(m api.Model) api.Model {
	trees := slices.Clone(m.Trees)
	for i, t := range trees {
		trees[i] = append(slices.Clone(t), api.Node{Feature: 77}, api.Node{Left: 88})[:len(t)]
	}
	if len(trees) > 1 {
		trees[1] = trees[0]
	}
	return api.Model{Features: m.Features, Trees: append(trees, []api.Node{leaf("7", "7")})[:len(trees)]}
}

func roomRow(l []api.Cell) []api.Cell {
	return append(slices.Clone(l), api.Cell{Missing: true}, api.Cell{Value: number("77")})[:len(l)]
}

func writeOver(a api.Rat) {
	for _, l := range []api.Nat{a.Num.Abs[:cap(a.Num.Abs)], a.Den[:cap(a.Den)]} {
		for i := range l {
			l[i] = 1<<64 - 1
		}
	}
}

// spoil writes over all that a list of numbers reaches, from behind; whether the limbs of the numbers ahead stayed each time (a 0 that is written over may still be 0).
func spoil(l []api.Rat) bool {
	var keep []api.Rat
	for _, x := range l {
		keep = append(keep, api.Rat{Num: api.Int{Neg: x.Num.Neg, Abs: slices.Clone(x.Num.Abs)}, Den: slices.Clone(x.Den)})
	}
	for i, x := range slices.Backward(l) {
		writeOver(x)
		if !slices.EqualFunc(l[:i], keep[:i], sameLimbs) {
			return false
		}
	}
	clear(l[:cap(l)])
	return true
}

// answers are all numbers that are answered of a model and a row.
func answers(m api.Model, r []api.Cell) []api.Rat {
	out, _ := linear.Values(m, r)
	return out
}

// Rule R3: models and rows stay as they are, also behind their ends, and nothing hangs on what is answered.
func TestArgumentsStay(t *testing.T) {
	d := dice(41)
	for range 500 {
		m := roomModel(d.anyModel(3, 4))
		r := roomRow(d.anyRow(m.Features))
		keep, keepR := wholeModel(m), wholeRow(r)
		if !spoil(answers(m, r)) {
			t.Fatalf("numbers that were answered of %v hang together", m)
		}
		if !sameModel(wholeModel(m), keep) || !sameRow(wholeRow(r), keepR) {
			t.Fatalf("%v or %v has turned", m, r)
		}
	}
}

// Rule R3: what was answered stays, when what was handed in is written over.
func TestAnswersStay(t *testing.T) {
	d := dice(43)
	for range 500 {
		m := d.anyModel(3, 4)
		r := d.anyRow(m.Features)
		got := answers(m, r)
		want := ratio.Texts(got)
		for _, tree := range m.Trees {
			for _, n := range tree {
				writeOver(n.Value)
				writeOver(n.Cut)
				writeOver(n.Cover)
			}
			clear(tree)
		}
		for _, c := range r {
			writeOver(c.Value)
		}
		if !slices.Equal(ratio.Texts(got), want) {
			t.Fatalf("%v has turned, was %q", got, want)
		}
	}
}

// Rule R4: the same is answered again, also where an earlier answer was written over.
func TestAnswersAgain(t *testing.T) {
	m, r := three(), row("1/2 ?")
	want := ratio.Texts(answers(m, r))
	for range 3 {
		got := answers(m, r)
		if !slices.Equal(ratio.Texts(got), want) {
			t.Fatalf("%q, not %q", ratio.Texts(got), want)
		}
		spoil(got)
	}
}

// told are all numbers that are answered of a leg, and of its polynomial.
func told(l api.Leg, p []api.Rat) []api.Rat {
	out := linear.Leaf(l)
	for i := range l.Parts {
		one, _ := linear.Without(l, i)
		out = append(out, one...)
	}
	for n := len(p); n < len(p)+3; n++ {
		x, _ := linear.Weigh(p, n)
		y, _ := linear.ByArea(p, n)
		out = append(out, x, y)
	}
	return out
}

func wholeParts(l []api.Part) []api.Part {
	out := slices.Clone(l[:cap(l)])
	for i, p := range out {
		out[i].Share = wholeRat(p.Share)
	}
	return out
}

func sameParts(a, b []api.Part) bool {
	return slices.EqualFunc(a, b, func(a, b api.Part) bool {
		return a.Feature == b.Feature && a.Ok == b.Ok && sameLimbs(a.Share, b.Share)
	})
}

func wholeList(l []api.Rat) []api.Rat {
	out := slices.Clone(l[:cap(l)])
	for i, x := range out {
		out[i] = wholeRat(x)
	}
	return out
}

// Rule R3: legs and polynomials stay as they are, also behind their ends, and nothing hangs on what is answered of them.
func TestLegsStay(t *testing.T) {
	d := dice(47)
	for range 500 {
		l, _ := d.anyLeg(d.below(6))
		l.Parts = append(slices.Clone(l.Parts), api.Part{Feature: 77, Share: number("77")}, api.Part{Feature: 88, Ok: true})[:len(l.Parts)]
		var p []api.Rat
		for range d.below(6) {
			p = append(p, d.anyNumber())
		}
		p = append(slices.Clone(p), number("77"), ratio.Zero())[:len(p)]
		keep, keepValue, keepP := wholeParts(l.Parts), wholeRat(l.Value), wholeList(p)
		got := told(l, p)
		want := ratio.Texts(got)
		if !spoil(got) {
			t.Fatalf("numbers that were answered of %v and %v hang together", l, p)
		}
		if !sameParts(wholeParts(l.Parts), keep) || !sameLimbs(wholeRat(l.Value), keepValue) || !slices.EqualFunc(wholeList(p), keepP, sameLimbs) {
			t.Fatalf("%v or %v has turned", l, p)
		}
		// Rule R4: the same is answered again.
		again := told(l, p)
		for _, x := range l.Parts {
			writeOver(x.Share)
		}
		for _, x := range p {
			writeOver(x)
		}
		clear(l.Parts)
		clear(p)
		if !slices.Equal(ratio.Texts(again), want) {
			t.Fatalf("%q, not %q", ratio.Texts(again), want)
		}
	}
}
