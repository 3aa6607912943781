package route_test

import (
	"slices"
	"strings"
	"testing"

	"dendron/api"
	"dendron/ratio"
	"dendron/route"
)

// Promise 10.1: numbers below a cut go to the left, those at it (example 1) and above it to the right, in all forms.
func TestLeftOfNumbers(t *testing.T) {
	for _, c := range []struct {
		cut, entry string
		want       bool
	}{
		{"1/2", "1/2", false}, {"1/2", "0.5", false}, {"1/2", "2/4", false}, {"1/2", "0.4999999999999999999999", true}, {"1/2", "0.5000000000000000000001", false}, {"1/2", "1/3", true}, {"1/2", "-1/2", true}, {"1/2", "2", false},
		{"0", "0", false}, {"0", "-0", false}, {"0", "-1/4294967296", true}, {"0", "1/4294967296", false}, {"-2", "-3", true}, {"-2", "-1", false}, {"-2", "-2", false},
		{"4294967296", "4294967295", true}, {"4294967296", "4294967296", false}, {"4294967295", "4294967296", false}, {"18446744073709551616", "18446744073709551615", true}, {"18446744073709551616", "0", true}, {"0", "18446744073709551616", false},
	} {
		for _, miss := range []bool{false, true} {
			for _, cut := range []api.Rat{number(c.cut), soiled(number(c.cut))} {
				for _, entry := range []api.Rat{number(c.entry), soiled(number(c.entry))} {
					if route.Left(api.Node{Cut: cut, Miss: miss}, api.Cell{Value: entry}) != c.want {
						t.Fatalf("%s at %s, missing to the left %v: not %v", c.entry, c.cut, miss, c.want)
					}
				}
			}
		}
	}
	for _, cut := range zeros() {
		for _, entry := range zeros() {
			if route.Left(api.Node{Cut: cut}, api.Cell{Value: entry}) || !route.Left(api.Node{Cut: cut}, api.Cell{Value: number("-1")}) || route.Left(api.Node{Cut: number("-1")}, api.Cell{Value: entry}) {
				t.Fatalf("%v at %v", entry, cut)
			}
		}
	}
}

// Promise 10.1: missing entries go where Miss tells, whatever number they carry; at a leaf nothing goes to the left.
func TestLeftOfMissing(t *testing.T) {
	for _, entry := range []string{"-5", "0", "5"} {
		for _, miss := range []bool{false, true} {
			n := api.Node{Cut: number("1"), Miss: miss, Left: -7, Right: 999, Feature: -1}
			if c := (api.Cell{Missing: true, Value: number(entry)}); route.Left(n, c) != miss {
				t.Fatalf("missing with %s goes not where %v tells", entry, miss)
			}
			n.Leaf = true
			for _, missing := range []bool{false, true} {
				if route.Left(n, api.Cell{Missing: missing, Value: number(entry)}) {
					t.Fatalf("%s goes to the left of a leaf", entry)
				}
			}
		}
	}
	if route.Left(api.Node{}, api.Cell{Missing: true}) || !route.Left(api.Node{Miss: true}, api.Cell{Missing: true}) || route.Left(api.Node{Leaf: true, Miss: true}, api.Cell{Missing: true}) {
		t.Fatal("nodes without a number")
	}
}

func wantWay(t *testing.T, tree []api.Node, r []api.Cell, want ...int) {
	t.Helper()
	way, e := route.Way(tree, r)
	at, e2 := route.Leaf(tree, r)
	if e != api.OK || e2 != api.OK || !slices.Equal(way, want) || at != want[len(want)-1] {
		t.Fatalf("%v in %v: %v, %v, leaf %d, %v; not %v", r, tree, way, e, at, e2, want)
	}
}

func wantNoWay(t *testing.T, tree []api.Node, r []api.Cell) {
	t.Helper()
	way, e := route.Way(tree, r)
	at, e2 := route.Leaf(tree, r)
	if e != api.ErrArg || e2 != api.ErrArg || len(way) > 0 || at != 0 {
		t.Fatalf("%v in %v: %v, %v, leaf %d, %v; not refused", r, tree, way, e, at, e2)
	}
}

// Promise 10.1: ways through a tree whose nodes stand in another order than they are come to.
func TestWay(t *testing.T) {
	tree := []api.Node{
		split(0, "1/2", 4, 1, "6"),
		split(1, "0?", 5, 2, "4"),
		split(0, "3", 6, 3, "3"),
		leaf("7", "1"),
		leaf("8", "2"),
		leaf("9", "1"),
		leaf("10", "2"),
	}
	for line, want := range map[string][]int{
		"0 0": {0, 4}, "0 ?": {0, 4}, "1/2 -1": {0, 1, 5}, "1/2 ?": {0, 1, 5}, "? ?": {0, 1, 5}, "? 0": {0, 1, 2, 3}, "1/2 0": {0, 1, 2, 6}, "2.99 5": {0, 1, 2, 6}, "3 5": {0, 1, 2, 3}, "? -1/9": {0, 1, 5},
	} {
		wantWay(t, tree, row(line), want...)
	}
	// Entries that no split asks for change nothing; a row of a leaf alone may be of any length.
	wantWay(t, tree, row("0 0 ? 5"), 0, 4)
	wantWay(t, tree, append(row("? 0"), make([]api.Cell, 62)...), 0, 1, 2, 3)
	for n := range 65 {
		wantWay(t, []api.Node{leaf("1", "1")}, make([]api.Cell, n), 0)
	}
	wantWay(t, []api.Node{leaf("1", "1")}, nil, 0)
}

// Promise 10.1: trees that may not be for as many features as the row has entries.
func TestNoWay(t *testing.T) {
	tree := []api.Node{split(1, "0", 1, 2, "2"), leaf("1", "1"), leaf("2", "1")}
	for n := range 70 {
		r := make([]api.Cell, n)
		if n < 2 || n > 64 {
			wantNoWay(t, tree, r)
		} else {
			wantWay(t, tree, r, 0, 2)
		}
		wantNoWay(t, nil, r)
		wantNoWay(t, []api.Node{}, r)
	}
	wantNoWay(t, []api.Node{leaf("1", "1")}, make([]api.Cell, 65))
	for _, m := range wrongModels() {
		if m.Features == 1 && len(m.Trees) == 1 {
			wantNoWay(t, m.Trees[0], row("0"))
		}
	}
	// A fault that the row does not come to is one all the same.
	wantNoWay(t, []api.Node{split(0, "0", 1, 2, "2"), leaf("1", "1"), leaf("2", "0")}, row("-1"))
	wantNoWay(t, []api.Node{split(0, "0", 1, 2, "2"), leaf("1", "1"), leaf("2", "1"), leaf("3", "1")}, row("-1"))
}

// chain is a tree of so many splits, one below the other, on the left or on the right.
func chain(splits int, left bool) []api.Node {
	var t []api.Node
	for i := range splits {
		a, b, cut := 2*i+1, 2*i+2, i-splits
		if left {
			a, b, cut = b, a, splits-i
		}
		t = append(t, api.Node{Feature: i % 64, Cut: ratio.Of(cut), Left: a, Right: b, Cover: ratio.Of(splits - i + 1)}, leaf("1", "1"))
	}
	return append(t, leaf("5", "1"))
}

// Promise 10.1: the longest ways.
func TestLongWay(t *testing.T) {
	for _, left := range []bool{false, true} {
		tree := chain(127, left)
		var want []int
		for i := range 128 {
			want = append(want, 2*i)
		}
		wantWay(t, tree, make([]api.Cell, 64), want...)
		wantNoWay(t, tree, make([]api.Cell, 63))
		wantNoWay(t, chain(128, left), make([]api.Cell, 64))
	}
}

// Promise 10.1: entries and cuts of as many digits as a text may have.
func TestLongNumbers(t *testing.T) {
	nines := strings.Repeat("9", api.MaxDigits)
	tree := []api.Node{split(0, nines+"/"+nines[1:], 1, 2, "2"), leaf("1", "1"), leaf("2", "1")}
	wantWay(t, tree, row(nines+"/"+nines[1:]), 0, 2)
	wantWay(t, tree, row(nines[1:]+"8/"+nines[1:]), 0, 1)
}

// Promise 10.1: ways by chance, held against ways that are gone upwards.
func TestWayByChance(t *testing.T) {
	d := dice(5)
	for range 20000 {
		features := 1 + d.below(4)
		tree := d.anyTree(d.below(9), features)
		r := d.anyRow(features)
		wantWay(t, tree, r, wayBySight(tree, r)...)
		for _, n := range tree {
			if c := r[n.Feature%features]; !n.Leaf && route.Left(n, c) != goes(n, c, n.Left) {
				t.Fatalf("%v at %v", c, n)
			}
		}
	}
}
