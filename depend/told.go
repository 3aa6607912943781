package depend

import (
	"slices"

	"dendron/api"
	"dendron/ratio"
)

// ledger gathers what a model says of all entries of a grid at once: asked one by one, each would go through all trees again, though most of these say the same of most entries.
type ledger struct {
	feature int
	numbers []api.Rat   // of the grid, rising, each once
	turns   [][]api.Rat // of each number what is said of it beside what is said of the one ahead of it, in parts
	missing []api.Rat   // what is said of a missing entry, in parts
}

// span is which entries come to a node: the numbers of the places from from to ahead of to, and whether a missing one does.
type span struct {
	from, to int
	missing  bool
}

// told hands over what a model says of a grid's entries, by what comes to each of its trees.
func told(m api.Model, feature int, grid []api.Cell, whole crowd) func(api.Cell) api.Rat {
	a := ledger{feature: feature, numbers: rising(grid)}
	a.turns = make([][]api.Rat, len(a.numbers))
	entries := span{to: len(a.numbers), missing: slices.ContainsFunc(grid, func(z api.Cell) bool { return z.Missing })}
	for _, t := range m.Trees {
		a.gather(t, 0, entries, whole)
	}
	said, missing := a.sums(), ratio.Sum(a.missing)
	return func(z api.Cell) api.Rat {
		if z.Missing {
			return own(missing)
		}
		return own(said[a.place(z.Value)])
	}
}

// rising are a grid's numbers, each once.
func rising(grid []api.Cell) []api.Rat {
	var out []api.Rat
	for _, z := range grid {
		if !z.Missing {
			out = append(out, z.Value)
		}
	}
	slices.SortFunc(out, ratio.Cmp)
	return slices.CompactFunc(out, ratio.Same)
}

// place is where a number stands, or would stand.
func (a *ledger) place(x api.Rat) int {
	at, _ := slices.BinarySearchFunc(a.numbers, x, ratio.Cmp)
	return at
}

// gather takes in what the leaves below a node say of the entries that come there.
func (a *ledger) gather(t []api.Node, at int, entries span, c crowd) {
	n := t[at]
	switch {
	case entries.from >= entries.to && !entries.missing:
	case n.Leaf:
		a.enter(entries, ratio.Mul(c.weight(), n.Value))
	case n.Feature == a.feature:
		cut := a.place(n.Cut)
		a.gather(t, n.Left, span{entries.from, min(entries.to, cut), entries.missing && n.Miss}, c)
		a.gather(t, n.Right, span{max(entries.from, cut), entries.to, entries.missing && !n.Miss}, c)
	default:
		left, right := c.part(t, n)
		a.gather(t, n.Left, entries, left)
		a.gather(t, n.Right, entries, right)
	}
}

// enter takes in what a leaf says of the entries that come to it.
func (a *ledger) enter(entries span, x api.Rat) {
	if ratio.Sign(x) == 0 {
		return
	}
	if entries.from < entries.to {
		a.turns[entries.from] = append(a.turns[entries.from], x)
		if entries.to < len(a.turns) {
			a.turns[entries.to] = append(a.turns[entries.to], ratio.Neg(x))
		}
	}
	if entries.missing {
		a.missing = append(a.missing, x)
	}
}

// sums is what is said of each number; where nothing turns, places share their memory.
func (a *ledger) sums() []api.Rat {
	out := make([]api.Rat, len(a.turns))
	sum := ratio.Zero()
	for k, l := range a.turns {
		if len(l) > 0 {
			sum = ratio.Add(sum, ratio.Sum(l))
		}
		out[k] = sum
	}
	return out
}

// own is the same number in memory of its own; it is in its form, and long sums would be looked through for a divisor again by ratio.Clean.
func own(x api.Rat) api.Rat {
	return api.Rat{Num: api.Int{Neg: x.Num.Neg, Abs: slices.Clone(x.Num.Abs)}, Den: slices.Clone(x.Den)}
}
