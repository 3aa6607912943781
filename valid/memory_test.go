package valid_test

import (
	"slices"
	"testing"

	"dendron/api"
	"dendron/model"
	"dendron/valid"
)

// sameNumber asks for the same limbs, not for the same number alone.
func sameNumber(a, b api.Rat) bool {
	return a.Num.Neg == b.Num.Neg && slices.Equal(a.Num.Abs, b.Num.Abs) && slices.Equal(a.Den, b.Den)
}

func sameNode(a, b api.Node) bool {
	return a.Leaf == b.Leaf && a.Feature == b.Feature && sameNumber(a.Cut, b.Cut) && a.Left == b.Left && a.Right == b.Right && a.Miss == b.Miss && sameNumber(a.Value, b.Value) && sameNumber(a.Cover, b.Cover)
}

func sameModel(a, b api.Model) bool {
	return a.Features == b.Features && slices.EqualFunc(a.Trees, b.Trees, func(s, t []api.Node) bool { return slices.EqualFunc(s, t, sameNode) })
}

// whole is a copy of a model with what lies behind its lists' ends.
func whole(m api.Model) api.Model {
	limbs := func(l api.Nat) api.Nat { return slices.Clone(l[:cap(l)]) }
	rat := func(a api.Rat) api.Rat {
		return api.Rat{Num: api.Int{Neg: a.Num.Neg, Abs: limbs(a.Num.Abs)}, Den: limbs(a.Den)}
	}
	out := api.Model{Features: m.Features}
	for _, t := range m.Trees[:cap(m.Trees)] {
		var nodes []api.Node
		for _, n := range t[:cap(t)] {
			n.Cut, n.Value, n.Cover = rat(n.Cut), rat(n.Value), rat(n.Cover)
			nodes = append(nodes, n)
		}
		out.Trees = append(out.Trees, nodes)
	}
	return out
}

// room is the same model with memory behind the ends of its lists, one of them standing in two places.
func room(m api.Model) api.Model {
	for i, t := range m.Trees {
		m.Trees[i] = append(slices.Clone(t), api.Node{Feature: 77}, api.Node{Left: 88})[:len(t)]
	}
	if len(m.Trees) > 1 {
		m.Trees[1] = m.Trees[0]
	}
	m.Trees = append(slices.Clone(m.Trees), full(2))[:len(m.Trees)]
	return m
}

// Rule R3: a model stays as it is, also behind its lists' ends.
func TestArgumentsStay(t *testing.T) {
	d := dice(31)
	for range 2000 {
		m := d.anyModel(3, 4)
		for range d.below(2) {
			d.harm(&m)
		}
		m = room(m)
		keep := whole(m)
		valid.Check(m)
		valid.Ok(m)
		used := valid.Used(m)
		for i := range used {
			used[i] = !used[i]
		}
		for _, tree := range m.Trees {
			valid.Tree(tree, m.Features)
			valid.Depth(tree, m.Features)
			clear(valid.Leaves(tree, m.Features))
		}
		if !sameModel(whole(m), keep) {
			t.Fatalf("%v has turned", m)
		}
	}
}

// Rules R3 and R4: the same is answered again, also where an earlier answer was written over.
func TestAnswersAreNew(t *testing.T) {
	d := dice(33)
	for range 1000 {
		m := d.anyModel(3, 4)
		s, _ := model.Write(m)
		first, _ := valid.Parse(s)
		want := whole(first)
		used, again := valid.Used(m), valid.Used(m)
		for i := range used {
			used[i] = !used[i]
		}
		if len(used) > 0 && slices.Equal(used, again) {
			t.Fatalf("two answers of %v hang together", m)
		}
		for i, tree := range first.Trees {
			leaves, more := valid.Leaves(tree, m.Features), valid.Leaves(tree, m.Features)
			for k := range leaves {
				leaves[k] = -1
			}
			if slices.Contains(more, -1) {
				t.Fatalf("two answers of %v hang together", tree)
			}
			for _, n := range tree {
				clear(n.Cover.Den)
			}
			clear(first.Trees[i])
		}
		if second, f := valid.Parse(s); f != (api.Fault{}) || !sameModel(second, model.Tidy(m)) || !sameModel(whole(second), want) {
			t.Fatalf("%q: %v and %v", s, second, f)
		}
	}
}
