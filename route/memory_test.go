package route_test

import (
	"slices"
	"testing"

	"dendron/api"
	"dendron/ratio"
	"dendron/route"
)

// wholeRat is a copy of a number with what lies behind its lists' ends; so of models and rows.
func wholeRat(a api.Rat) api.Rat {
	limbs := func(l api.Nat) api.Nat { return slices.Clone(l[:cap(l)]) }
	return api.Rat{Num: api.Int{Neg: a.Num.Neg, Abs: limbs(a.Num.Abs)}, Den: limbs(a.Den)}
}

func wholeModel(m api.Model) api.Model {
	out := api.Model{Features: m.Features}
	for _, t := range m.Trees[:cap(m.Trees)] {
		nodes := slices.Clone(t[:cap(t)])
		for i, n := range nodes {
			nodes[i].Cut, nodes[i].Value, nodes[i].Cover = wholeRat(n.Cut), wholeRat(n.Value), wholeRat(n.Cover)
		}
		out.Trees = append(out.Trees, nodes)
	}
	return out
}

func wholeRow(l []api.Cell) []api.Cell {
	out := slices.Clone(l[:cap(l)])
	for i, c := range out {
		out[i].Value = wholeRat(c.Value)
	}
	return out
}

func sameModel(a, b api.Model) bool {
	sameNode := func(a, b api.Node) bool {
		same := sameLimbs(a.Cut, b.Cut) && sameLimbs(a.Value, b.Value) && sameLimbs(a.Cover, b.Cover)
		return same && a.Leaf == b.Leaf && a.Feature == b.Feature && a.Left == b.Left && a.Right == b.Right && a.Miss == b.Miss
	}
	return a.Features == b.Features && slices.EqualFunc(a.Trees, b.Trees, func(s, t []api.Node) bool { return slices.EqualFunc(s, t, sameNode) })
}

func sameRow(a, b []api.Cell) bool {
	return slices.EqualFunc(a, b, func(a, b api.Cell) bool { return a.Missing == b.Missing && sameLimbs(a.Value, b.Value) })
}

// roomModel is the same model with memory behind the ends of its lists, one of them standing in two places.
func roomModel(m api.Model) api.Model {
	trees := slices.Clone(m.Trees)
	for i, t := range trees {
		trees[i] = append(slices.Clone(t), api.Node{Feature: 77}, api.Node{Left: 88})[:len(t)]
	}
	if len(trees) > 1 {
		trees[1] = trees[0]
	}
	return api.Model{Features: m.Features, Trees: append(trees, []api.Node{leaf("7", "7")})[:len(trees)]}
}

func roomRow(l []api.Cell) []api.Cell {
	return append(slices.Clone(l), api.Cell{Missing: true}, api.Cell{Value: number("77")})[:len(l)]
}

func writeOver(a api.Rat) {
	for _, l := range []api.Nat{a.Num.Abs[:cap(a.Num.Abs)], a.Den[:cap(a.Den)]} {
		for i := range l {
			l[i] = 1<<64 - 1
		}
	}
}

// spoil writes over all that a list of numbers reaches, from behind; whether the numbers ahead stayed each time.
func spoil(l []api.Rat) bool {
	keep := ratio.Texts(l)
	for i, x := range slices.Backward(l) {
		writeOver(x)
		if !slices.Equal(ratio.Texts(l[:i]), keep[:i]) {
			return false
		}
	}
	clear(l[:cap(l)])
	return true
}

// Rule R3: models and rows stay as they are, also behind their ends, and nothing hangs on what is answered.
func TestArgumentsStay(t *testing.T) {
	d := dice(41)
	for range 2000 {
		m := roomModel(d.anyModel(3, 4))
		r, other := roomRow(d.anyRow(m.Features)), roomRow(d.anyRow(m.Features))
		keep, keepR, keepOther := wholeModel(m), wholeRow(r), wholeRow(other)
		for _, tree := range m.Trees {
			way, _ := route.Way(tree, r)
			clear(way[:cap(way)])
			route.Leaf(tree, r)
		}
		route.Fits(m, r)
		x, _ := route.Predict(m, r)
		mean, _ := route.Mean(m, [][]api.Cell{r, other, r})
		one, _ := route.Mean(m, [][]api.Cell{r})
		each, _ := route.Each(m, r)
		fine := spoil([]api.Rat{x, mean, one}) && spoil(each)
		for feature := range min(m.Features, 5) {
			cuts, _ := route.Cuts(m, feature)
			steps, _ := route.Steps(m, feature)
			fine = fine && spoil(slices.Concat(cuts, steps)) && spoil(cuts) && spoil(steps)
		}
		if !fine {
			t.Fatalf("numbers that were answered of %v hang together", m)
		}
		if !sameModel(wholeModel(m), keep) || !sameRow(wholeRow(r), keepR) || !sameRow(wholeRow(other), keepOther) {
			t.Fatalf("%v, %v or %v has turned", m, r, other)
		}
	}
}

// Rule R3: what was answered stays, when what was handed in is written over.
func TestAnswersStay(t *testing.T) {
	d := dice(43)
	for range 1000 {
		m := d.anyModel(3, 4)
		r := d.anyRow(m.Features)
		var got []api.Rat
		x, _ := route.Predict(m, r)
		each, _ := route.Each(m, r)
		mean, _ := route.Mean(m, [][]api.Cell{r})
		got = append(append(got, x, mean), each...)
		for feature := range min(m.Features, 5) {
			cuts, _ := route.Cuts(m, feature)
			steps, _ := route.Steps(m, feature)
			got = slices.Concat(got, cuts, steps)
		}
		want := ratio.Texts(got)
		for _, tree := range m.Trees {
			for _, n := range tree {
				writeOver(n.Value)
				writeOver(n.Cut)
				writeOver(n.Cover)
			}
			clear(tree)
		}
		for _, c := range r {
			writeOver(c.Value)
		}
		if !slices.Equal(ratio.Texts(got), want) {
			t.Fatalf("%v has turned, was %q", got, want)
		}
	}
}

// Rule R4: the same is answered again, also where an earlier answer was written over.
func TestAnswersAgain(t *testing.T) {
	m := three()
	for range 3 {
		r := row("1/2 ?")
		way, _ := route.Way(m.Trees[0], r)
		each, _ := route.Each(m, r)
		x, _ := route.Predict(m, r)
		cuts, _ := route.Cuts(m, 1)
		steps, _ := route.Steps(m, 1)
		none, _ := route.Steps(model(1), 0)
		if !slices.Equal(way, []int{0, 2, 3}) || !slices.Equal(ratio.Texts(each), []string{"2", "-1/3", "100"}) || ratio.Print(x) != "305/3" {
			t.Fatal(way, each, x)
		}
		if !slices.Equal(ratio.Texts(cuts), []string{"0", "5"}) || !slices.Equal(ratio.Texts(steps), []string{"-1", "0", "5"}) || !slices.Equal(ratio.Texts(none), []string{"0"}) {
			t.Fatal(cuts, steps, none)
		}
		clear(way)
		writeOver(x)
		for _, l := range [][]api.Rat{each, cuts, steps, none} {
			spoil(l)
		}
	}
}
