package expect_test

import (
	"slices"
	"testing"

	"dendron/api"
	"dendron/expect"
	"dendron/ratio"
)

func wantTable(t *testing.T, m api.Model, r []api.Cell) {
	t.Helper()
	l, e := expect.Table(m, r)
	if e != api.OK || len(l) != 1<<m.Features {
		t.Fatalf("%v of %v: %v, %v", r, m, l, e)
	}
	for set, x := range l {
		if !isBig(x, modelBySight(m, r, uint64(set))) {
			t.Fatalf("%v of %v where %b is known: %v", r, m, set, x)
		}
	}
}

// Promise 11.1: up to 12 features there is a table, of more there is none, once the row fits.
func TestTableLimit(t *testing.T) {
	for features := range 65 {
		m := model(features, []api.Node{leaf("-3/7", "1")})
		if features > 0 {
			m.Trees = append(m.Trees, []api.Node{split(features-1, "1", 1, 2, "3"), leaf("1", "1"), leaf("5", "2")})
		}
		r := make([]api.Cell, features)
		if features <= 12 {
			wantTable(t, m, r)
			wantTable(t, api.Model{Features: features}, r)
		} else if l, e := expect.Table(m, r); e != api.ErrLimit || len(l) > 0 {
			t.Fatalf("%d features: %v, %v", features, l, e)
		}
		wantError(t, m, append(r, api.Cell{}), api.ErrLength)
		if features > 12 {
			wantError(t, m, r[1:], api.ErrLength)
			m.Trees[1][2].Cover = ratio.Of(3)
			wantError(t, m, r, api.ErrArg)
		}
	}
}

// Promise 11.1: trees that ask for all features, for some, and for none, beside each other.
func TestTableByChance(t *testing.T) {
	d := dice(23)
	for range 300 {
		m := api.Model{Features: 1 + d.below(6)}
		for range d.below(4) {
			tree := d.anyTree(d.below(9), m.Features)
			keep := d.below(m.Features)
			for i := range tree {
				if !tree[i].Leaf {
					tree[i].Feature = max(tree[i].Feature, keep)
				}
			}
			m.Trees = append(m.Trees, tree)
		}
		wantTable(t, m, d.anyRow(m.Features))
	}
}

// Promise 11.1: the most features, by a deep tree and others; Value is the same, set by set.
func TestTableOfMuch(t *testing.T) {
	d := dice(29)
	m := api.Model{Features: 12, Trees: [][]api.Node{chain(30, 12, true), d.anyTree(20, 12)}}
	for range 4 {
		m.Trees = append(m.Trees, d.anyTree(6, 12))
	}
	r := make([]api.Cell, 12)
	for i := range r {
		r[i] = d.anyCell()
	}
	wantTable(t, m, r)
	l, _ := expect.Table(m, r)
	var values []api.Rat
	for set := range 4096 {
		x, _ := expect.Value(m, r, uint64(set))
		values = append(values, x)
	}
	if !slices.EqualFunc(l, values, sameLimbs) {
		t.Fatal("the table is not that of the values")
	}
}
