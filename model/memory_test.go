package model_test

import (
	"slices"
	"testing"

	"dendron/api"
	"dendron/model"
)

func copied(m api.Model) api.Model {
	limbs := func(l api.Nat) api.Nat { return slices.Clone(l[:cap(l)])[:len(l)] }
	rat := func(a api.Rat) api.Rat {
		return api.Rat{Num: api.Int{Neg: a.Num.Neg, Abs: limbs(a.Num.Abs)}, Den: limbs(a.Den)}
	}
	out := api.Model{Features: m.Features}
	for _, t := range m.Trees[:cap(m.Trees)] {
		var nodes []api.Node
		for _, n := range t[:cap(t)] {
			n.Cut, n.Value, n.Cover = rat(n.Cut), rat(n.Value), rat(n.Cover)
			nodes = append(nodes, n)
		}
		out.Trees = append(out.Trees, nodes[:len(t):len(nodes)])
	}
	return api.Model{Features: out.Features, Trees: out.Trees[:len(m.Trees):len(out.Trees)]}
}

// whole shows what lies behind the lists' ends too.
func whole(m api.Model) api.Model {
	limbs := func(l *api.Nat) { *l = (*l)[:cap(*l)] }
	m = copied(m)
	m.Trees = m.Trees[:cap(m.Trees)]
	for i := range m.Trees {
		m.Trees[i] = m.Trees[i][:cap(m.Trees[i])]
		for k := range m.Trees[i] {
			n := &m.Trees[i][k]
			for _, a := range []*api.Rat{&n.Cut, &n.Value, &n.Cover} {
				limbs(&a.Num.Abs)
				limbs(&a.Den)
			}
		}
	}
	return m
}

func writeOver(a api.Rat) {
	for _, l := range []api.Nat{a.Num.Abs[:cap(a.Num.Abs)], a.Den[:cap(a.Den)]} {
		for i := range l {
			l[i] = 1<<64 - 1
		}
	}
}

// spoil writes over all that a model reaches, from the last list on; whether each list, as long as it was not written over, stayed as it was.
func spoil(m api.Model) bool {
	keep := copied(m)
	for i, t := range slices.Backward(m.Trees) {
		for k, n := range slices.Backward(t) {
			writeOver(n.Cover)
			writeOver(n.Value)
			writeOver(n.Cut)
			if !slices.EqualFunc(t[:k], keep.Trees[i][:k], sameNode) {
				return false
			}
		}
		clear(t[:cap(t)])
		if !sameModel(api.Model{Trees: m.Trees[:i]}, api.Model{Trees: keep.Trees[:i]}) {
			return false
		}
	}
	clear(m.Trees[:cap(m.Trees)])
	return true
}

// room is the same model with memory behind the ends of its lists.
func room(m api.Model) api.Model {
	for i, t := range m.Trees {
		m.Trees[i] = append(slices.Clone(t), api.Node{Feature: 77}, api.Node{Left: 88})[:len(t)]
	}
	m.Trees = append(slices.Clone(m.Trees), leaves(3))[:len(m.Trees)]
	return m
}

// Rule R3: a model stays as it is, also behind its lists' ends; one list may stand in several places.
func TestArgumentsStay(t *testing.T) {
	d := dice(17)
	for range 500 {
		m := room(d.anyModel(3, 4))
		if len(m.Trees) > 1 {
			m.Trees[1] = m.Trees[0]
		}
		keep := whole(m)
		model.Fits(m)
		s := mustWrite(t, m)
		got := model.Tidy(m)
		if !sameModel(whole(m), keep) {
			t.Fatalf("%v has turned", m)
		}
		want := copied(got)
		if !spoil(got) {
			t.Fatalf("lists of %v hang together", want)
		}
		if !sameModel(whole(m), keep) || mustWrite(t, m) != s || !sameModel(model.Tidy(m), want) {
			t.Fatalf("%v hangs on what was answered", m)
		}
	}
}

// Rule R3: what is read has memory of its own, also where numbers are the same.
func TestReadAnswersNewMemory(t *testing.T) {
	d := dice(19)
	for range 500 {
		s := mustWrite(t, d.anyModel(3, 4))
		first, _ := model.Read(s)
		want := copied(first)
		second, _ := model.Read(s)
		if !spoil(first) {
			t.Fatalf("lists of %q hang together", s)
		}
		if !sameModel(second, want) {
			t.Fatalf("%q: another answer has turned", s)
		}
		wantRead(t, s, want)
	}
}
