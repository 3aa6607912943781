package valid_test

import (
	"math"
	"slices"
	"strings"
	"testing"

	"dendron/api"
	"dendron/model"
	"dendron/ratio"
	"dendron/valid"
)

// Promise 8.1: models that may be, from none to the greatest.
func TestMayBe(t *testing.T) {
	for _, m := range []api.Model{
		{}, {Features: 64}, {Trees: [][]api.Node{}}, one(0, leaf("1")), one(64, leaf("1/1000000")),
		one(1, split(0, 1, 2, "3"), leaf("1"), leaf("2")), one(1, split(0, 2, 1, "3"), leaf("1"), leaf("2")), one(64, split(63, 1, 2, "1"), leaf("1/3"), leaf("2/3")),
		one(2, split(0, 3, 1, "6"), leaf("1"), leaf("2"), split(1, 2, 4, "5"), leaf("3")),
		one(2, split(0, 4, 3, "6"), leaf("1"), leaf("2"), leaf("3"), split(0, 1, 2, "3")),
		one(64, full(7)...), one(64, chain(127, true)...), one(64, chain(127, false)...),
		{Features: 64, Trees: slices.Repeat([][]api.Node{full(3)}, 64)}, {Features: 64, Trees: slices.Repeat([][]api.Node{full(7)}, 64)},
	} {
		wantFault(t, m, api.Fault{})
	}
}

// Promise 8.1: what does not fit, whatever else is wrong; no place is told.
func TestDoesNotFit(t *testing.T) {
	good := []api.Node{leaf("1")}
	for _, m := range []api.Model{
		{Features: -1}, {Features: 65}, {Features: math.MinInt}, {Features: math.MaxInt},
		{Trees: slices.Repeat([][]api.Node{good}, 65)}, {Trees: [][]api.Node{nil}}, {Trees: [][]api.Node{{}}}, {Trees: [][]api.Node{good, {}, good}},
		one(64, slices.Repeat(good, 256)...), one(64, slices.Repeat(good, 257)...),
		one(64, split(65, 1, 2, "2"), leaf("1"), leaf("1")), one(64, split(-1, 1, 2, "2"), leaf("1"), leaf("1")),
		one(1, split(0, -1, 2, "2"), leaf("1"), leaf("1")), one(1, split(0, 1, 256, "2"), leaf("1"), leaf("1")), one(1, split(0, math.MaxInt, math.MinInt, "2"), leaf("1"), leaf("1")),
		one(1, api.Node{Leaf: true, Feature: 65, Cover: ratio.One()}), one(1, api.Node{Leaf: true, Left: 256, Cover: ratio.One()}), one(1, api.Node{Leaf: true, Right: -1, Cover: ratio.One()}),
		{Features: 1, Trees: [][]api.Node{{split(1, 0, 9, "0")}, {leaf("1"), leaf("1")}, {split(0, 256, 1, "1")}}},
	} {
		wantErr(t, m, api.ErrArg, 0, 0)
	}
}

// Promise 8.1, rule 1: features and children at their edges; of leaves they are not looked at.
func TestRange(t *testing.T) {
	three := func(n api.Node) api.Model { return one(2, n, leaf("1"), leaf("1")) }
	wantFault(t, three(split(1, 1, 2, "2")), api.Fault{})
	for _, n := range []api.Node{
		split(2, 1, 2, "2"), split(64, 1, 2, "2"), split(0, 0, 2, "2"), split(0, 1, 0, "2"), split(0, 3, 2, "2"), split(0, 1, 3, "2"), split(0, 255, 2, "2"), split(0, 1, 255, "2"), split(0, 0, 0, "2"), {},
	} {
		wantErr(t, three(n), api.ErrRange, 0, 0)
	}
	wantErr(t, one(0, split(0, 1, 2, "2"), leaf("1"), leaf("1")), api.ErrRange, 0, 0)
	wantErr(t, one(64, split(64, 1, 2, "2"), leaf("1"), leaf("1")), api.ErrRange, 0, 0)
	wantErr(t, one(1, split(0, 1, 1, "1")), api.ErrRange, 0, 0)
	wantErr(t, one(2, split(0, 1, 2, "3"), leaf("1"), split(1, 3, 5, "2"), leaf("1"), leaf("1")), api.ErrRange, 0, 2)
	wantErr(t, one(2, split(0, 1, 2, "3"), leaf("1"), split(1, 0, 4, "2"), leaf("1"), leaf("1")), api.ErrRange, 0, 2)
	most := full(7)
	most[126].Right = 255
	wantErr(t, one(64, most...), api.ErrRange, 0, 126)
	wantFault(t, one(1, split(0, 1, 2, "2"), api.Node{Leaf: true, Feature: 64, Left: 255, Right: 1, Cover: ratio.One()}, api.Node{Leaf: true, Left: 1, Right: 2, Cover: ratio.One()}), api.Fault{})
}

// Promise 8.1, rule 2: children twice (example 1), never, and nodes that no way leads to.
func TestNoTree(t *testing.T) {
	wantErr(t, one(1, split(0, 1, 1, "2"), leaf("1")), api.ErrTree, 0, 1)
	wantErr(t, one(1, split(0, 1, 1, "2"), leaf("1"), leaf("1")), api.ErrTree, 0, 1)
	wantErr(t, one(1, split(0, 2, 2, "2"), leaf("1"), leaf("1")), api.ErrTree, 0, 1)
	wantErr(t, one(0, leaf("1"), leaf("1")), api.ErrTree, 0, 1)
	wantErr(t, one(1, split(0, 1, 2, "2"), leaf("1"), leaf("1"), leaf("1")), api.ErrTree, 0, 3)
	wantErr(t, one(1, split(0, 1, 3, "2"), leaf("1"), leaf("1"), leaf("1")), api.ErrTree, 0, 2)
	wantErr(t, one(1, split(0, 1, 2, "2"), leaf("1"), split(0, 3, 1, "2"), leaf("1")), api.ErrTree, 0, 1)
	wantErr(t, one(1, split(0, 1, 2, "4"), split(0, 3, 4, "2"), split(0, 3, 4, "2"), leaf("1"), leaf("1")), api.ErrTree, 0, 3)
	wantErr(t, one(1, leaf("1"), split(0, 1, 2, "2"), leaf("1")), api.ErrTree, 0, 1)
	wantErr(t, one(1, split(0, 1, 2, "2"), leaf("1"), leaf("1"), leaf("1"), split(0, 3, 4, "2")), api.ErrTree, 0, 3)
	wantErr(t, one(1, split(0, 1, 2, "2"), leaf("1"), leaf("1"), split(0, 4, 5, "2"), split(0, 3, 6, "2"), leaf("1"), leaf("1")), api.ErrTree, 0, 3)
	wantErr(t, one(1, split(0, 3, 4, "2"), split(0, 1, 2, "2"), leaf("1"), leaf("1"), leaf("1")), api.ErrTree, 0, 1)
	lost := slices.Concat([]api.Node{leaf("1")}, chain(126, true))
	for i := range lost {
		if !lost[i].Leaf {
			lost[i].Left, lost[i].Right = lost[i].Left+1, lost[i].Right+1
		}
	}
	wantErr(t, one(64, lost...), api.ErrTree, 0, 1)
}

// Promise 8.1, rule 2: in each tree what stands twice, or never, is told ahead of what can't be reached; trees in their order.
func TestChildrenAheadOfWays(t *testing.T) {
	circle := []api.Node{leaf("1"), split(0, 1, 2, "2"), leaf("1")}
	wantErr(t, one(1, append(slices.Clone(circle), leaf("1"))...), api.ErrTree, 0, 3)
	twice := []api.Node{split(0, 2, 2, "2"), leaf("1"), leaf("1")}
	wantErr(t, api.Model{Features: 1, Trees: [][]api.Node{full(0), circle, twice}}, api.ErrTree, 1, 1)
	wantErr(t, api.Model{Features: 1, Trees: [][]api.Node{full(0), twice, circle}}, api.ErrTree, 1, 1)
	late := []api.Node{split(0, 1, 2, "2"), leaf("1"), leaf("1"), split(0, 4, 3, "2"), leaf("1")}
	wantErr(t, api.Model{Features: 1, Trees: [][]api.Node{full(0), late, twice}}, api.ErrTree, 1, 3)
}

// Promise 8.1, rule 3: covers at 0 and below, of leaves and of splits, in all forms.
func TestCover(t *testing.T) {
	for _, bad := range []api.Rat{ratio.Zero(), {}, number("-1"), number("-1/1000000000000"), soiled(ratio.Zero()), soiled(number("-1")), {Num: api.Int{Abs: api.Nat{5}}}, {Num: api.Int{Abs: api.Nat{1}}, Den: api.Nat{1 << 32}}, {Num: api.Int{Abs: api.Nat{1 << 32}}, Den: api.Nat{1}}, {Num: api.Int{Neg: true}, Den: api.Nat{1}}} {
		for k := range 5 {
			m := one(2, split(0, 3, 1, "6"), leaf("1"), leaf("2"), split(1, 2, 4, "5"), leaf("3"))
			m.Trees[0][k].Cover = bad
			wantErr(t, m, api.ErrCover, 0, k)
		}
		wantErr(t, one(0, api.Node{Leaf: true, Cover: bad}), api.ErrCover, 0, 0)
	}
	wantFault(t, one(0, api.Node{Leaf: true, Cover: soiled(number("1/18446744073709551616"))}), api.Fault{})
	// Covers that add up, each below 0.
	wantErr(t, one(1, split(0, 1, 2, "1"), leaf("2"), leaf("-1")), api.ErrCover, 0, 2)
}

// Promise 8.1, rule 4: sums that are not the split's cover, by however little.
func TestParts(t *testing.T) {
	wantErr(t, one(1, split(0, 1, 2, "3"), leaf("1"), leaf("1")), api.ErrParts, 0, 0)
	wantErr(t, one(1, split(0, 1, 2, "1"), leaf("1/3"), leaf("666666666666666666666/1000000000000000000000")), api.ErrParts, 0, 0)
	wantErr(t, one(2, split(0, 3, 1, "6"), leaf("1"), leaf("2"), split(1, 2, 4, "5"), leaf("3.01")), api.ErrParts, 0, 3)
	wantErr(t, one(2, split(0, 3, 1, "6.01"), leaf("1"), leaf("2"), split(1, 2, 4, "5"), leaf("3.01")), api.ErrParts, 0, 0)
	wantErr(t, one(2, split(0, 3, 1, "7"), leaf("2"), leaf("2"), split(1, 2, 2, "5"), leaf("3")), api.ErrTree, 0, 2)
	m := one(1, split(0, 1, 2, "18446744073709551617"), leaf("18446744073709551616"), leaf("1"))
	wantFault(t, m, api.Fault{})
	for k := range m.Trees[0] {
		m.Trees[0][k].Cover = soiled(m.Trees[0][k].Cover)
		wantFault(t, m, api.Fault{})
	}
	m.Trees[0][0].Cover = number("18446744073709551616")
	wantErr(t, m, api.ErrParts, 0, 0)
	m.Trees[0][0].Cover = number("1")
	wantErr(t, m, api.ErrParts, 0, 0)
}

// Promise 8.1: rules in their order, of each rule the trees in theirs, then the nodes.
func TestFirstFault(t *testing.T) {
	good := []api.Node{split(0, 1, 2, "2"), leaf("1"), leaf("1")}
	bad := [][]api.Node{
		{split(0, 1, 3, "0"), leaf("0"), split(9, 1, 1, "0")},
		{split(0, 2, 2, "0"), leaf("0"), leaf("0")},
		{split(0, 1, 2, "7"), leaf("0"), leaf("-1")},
		{split(0, 1, 2, "7"), split(0, 3, 4, "1"), split(0, 5, 6, "1"), leaf("1"), leaf("1"), leaf("1"), leaf("1")},
	}
	want := []api.Fault{{Err: api.ErrRange}, {Err: api.ErrTree, Node: 1}, {Err: api.ErrCover, Node: 1}, {Err: api.ErrParts}}
	for i := range bad {
		for k := range i {
			wantFault(t, api.Model{Features: 1, Trees: [][]api.Node{good, bad[k], bad[i]}}, api.Fault{Err: want[k].Err, Tree: 1, Node: want[k].Node})
			wantFault(t, api.Model{Features: 1, Trees: [][]api.Node{bad[i], good, bad[k]}}, api.Fault{Err: want[k].Err, Tree: 2, Node: want[k].Node})
		}
		wantFault(t, api.Model{Features: 1, Trees: [][]api.Node{good, bad[i], bad[i]}}, api.Fault{Err: want[i].Err, Tree: 1, Node: want[i].Node})
		wantFault(t, api.Model{Features: 1, Trees: append(slices.Repeat([][]api.Node{good}, 63), bad[i])}, api.Fault{Err: want[i].Err, Tree: 63, Node: want[i].Node})
	}
}

// Promise 8.1: models by chance, as they may be and harmed, held against the rules by other means.
func TestCheckByChance(t *testing.T) {
	d := dice(3)
	seen := map[api.Errno]int{}
	for range 30000 {
		m := d.anyModel(4, 5)
		wantMay(t, m)
		for range d.below(4) {
			d.harm(&m)
		}
		want := faultBySight(m)
		seen[want.Err]++
		wantFault(t, m, want)
	}
	for _, e := range []api.Errno{api.OK, api.ErrArg, api.ErrRange, api.ErrTree, api.ErrCover, api.ErrParts} {
		if seen[e] < 500 {
			t.Fatalf("%v only %d times", e, seen[e])
		}
	}
}

func wantMay(t *testing.T, m api.Model) {
	t.Helper()
	if f := faultBySight(m); f != (api.Fault{}) {
		t.Fatalf("the test's own: %v of %v", f, m)
	}
	wantFault(t, m, api.Fault{})
}

// wantAllTrees holds all trees of so few nodes, with children at any of these places, in both orders or in one, against the rules.
func wantAllTrees(t *testing.T, nodes, least, most int, bothWays bool) {
	kinds := []api.Node{leaf("1")}
	for left := least; left <= most; left++ {
		for right := least; right <= most; right++ {
			if bothWays || left <= right {
				kinds = append(kinds, split(0, left, right, "2"))
			}
		}
	}
	pick := make([]int, nodes)
	for done := false; !done; {
		tree := make([]api.Node, nodes)
		for i, k := range pick {
			tree[i] = kinds[k]
		}
		m := one(1, tree...)
		wantFault(t, m, faultBySight(m))
		done = true
		for i := range pick {
			pick[i] = (pick[i] + 1) % len(kinds)
			if pick[i] > 0 {
				done = false
				break
			}
		}
	}
}

// Promise 8.1: the first fault of all small trees.
func TestAllSmallTrees(t *testing.T) {
	wantAllTrees(t, 1, 0, 1, true)
	wantAllTrees(t, 2, 0, 2, true)
	wantAllTrees(t, 3, 0, 3, true)
	wantAllTrees(t, 4, 1, 3, true)
	wantAllTrees(t, 5, 1, 4, false)
}

// Promise 8.1: Tree is of the model of that tree alone.
func TestTreeForFeatures(t *testing.T) {
	tree := full(2)
	for features := -3; features < 70; features++ {
		wantTree(t, tree, features, 3 <= features && features <= 64)
		wantTree(t, []api.Node{leaf("1")}, features, 0 <= features && features <= 64)
		wantTree(t, nil, features, false)
		wantTree(t, []api.Node{}, features, false)
	}
	for _, features := range []int{math.MinInt, math.MaxInt, 1 << 32} {
		wantTree(t, tree, features, false)
	}
	wantTree(t, full(7), 64, true)
	wantTree(t, full(7), 63, false)
	wantTree(t, full(8), 64, false)
	wantTree(t, chain(127, true), 64, true)
	wantTree(t, chain(128, true), 64, false)
}

func wantParsed(t *testing.T, s string) {
	t.Helper()
	m, f := valid.Parse(s)
	want, fault := model.Read(s)
	if fault == (api.Fault{}) {
		fault = faultBySight(want)
	}
	if fault != (api.Fault{}) {
		want = api.Model{}
	}
	if f != fault || !sameModel(m, want) {
		t.Fatalf("%q: %v and %v, not %v and %v", s, f, m, fault, want)
	}
}

// Promise 8.1: texts of models that may be and of others, and what is no text of a model.
func TestParse(t *testing.T) {
	const good = "dendron 1\nfeatures 1\ntrees 2\ntree 1\nleaf 5 1\ntree 3\nsplit 0 0.50 2 1 miss-left 1.0\nleaf 0 1/3\nleaf 1 2/3\nend\n"
	for _, c := range []struct {
		old, new string
		want     api.Fault
	}{
		{"", "", api.Fault{}}, {"miss-left 1.0", "miss-left # 1.0", api.Fault{Err: api.ErrEnd, At: strings.Index(good, "1.0\n") + 5}}, {"dendron", "dendra", api.Fault{Err: api.ErrWord}},
		{"1/3", "1/0", api.Fault{Err: api.ErrZero, At: strings.Index(good, "1/3")}}, {"split 0", "split 65", api.Fault{Err: api.ErrLimit, At: strings.Index(good, "split 0") + 6}},
		{"split 0", "split 1", api.Fault{Err: api.ErrRange, Tree: 1}}, {"2 1 miss", "0 1 miss", api.Fault{Err: api.ErrRange, Tree: 1}}, {"2 1 miss", "2 3 miss", api.Fault{Err: api.ErrRange, Tree: 1}},
		{"2 1 miss", "2 2 miss", api.Fault{Err: api.ErrTree, Tree: 1, Node: 1}}, {"2/3", "0/3", api.Fault{Err: api.ErrCover, Tree: 1, Node: 2}}, {"5 1", "5 -1", api.Fault{Err: api.ErrCover}}, {"1.0", "1.01", api.Fault{Err: api.ErrParts, Tree: 1}},
		{"features 1", "features 0", api.Fault{Err: api.ErrRange, Tree: 1}}, {"end\n", "end\nend", api.Fault{Err: api.ErrMore, At: len(good)}},
		// The fault of a field is told, not the one of a rule ahead of it.
		{"split 0 0.50 2 1 miss-left 1.0\nleaf 0 1/3", "split 1 0.50 2 2 miss-left 1.0\nleaf 0 x", api.Fault{Err: api.ErrForm, At: strings.Index(good, "1/3")}},
	} {
		s := strings.Replace(good, c.old, c.new, 1)
		if _, f := valid.Parse(s); f != c.want {
			t.Fatalf("%q: %v, not %v", s, f, c.want)
		}
		wantParsed(t, s)
	}
	for _, s := range []string{"", "\n", "dendron 1\nfeatures 0\ntrees 0\nend", strings.Repeat("\n", api.MaxLines), strings.Repeat(" ", api.MaxText+1), "\x00\xff"} {
		wantParsed(t, s)
	}
}

// Promise 8.1: texts by chance.
func TestParseByChance(t *testing.T) {
	d := dice(7)
	for range 5000 {
		m := d.anyModel(3, 4)
		for range d.below(3) {
			d.harm(&m)
		}
		s, e := model.Write(m)
		if e != api.OK {
			continue
		}
		if d.below(4) == 0 {
			at := d.below(len(s))
			s = s[:at] + pickOf(&d, "", " ", "\n", "9", "#", "-", "/") + s[at+d.below(2):]
		}
		wantParsed(t, s)
	}
}

// Promise 8.1: covers of as many digits as a text may have are held against each other in time.
func TestLongCovers(t *testing.T) {
	ninths := strings.Repeat("9", api.MaxDigits)
	a, b := number("1/"+ninths), number("2/"+strings.Repeat("7", api.MaxDigits))
	m := one(1, split(0, 1, 2, "1"), leaf("1"), leaf("1"))
	m.Trees[0][1].Cover, m.Trees[0][2].Cover = a, b
	m.Trees[0][0].Cover = ratio.Add(a, b)
	wantFault(t, m, api.Fault{})
	m.Trees[0][0].Cover = ratio.Sub(b, a)
	wantErr(t, m, api.ErrParts, 0, 0)
	s := "dendron 1\nfeatures 1\ntrees 1\ntree 3\nsplit 0 0 1 2 miss-left " + ninths + "\nleaf 0 1\nleaf 0 " + ninths[1:] + "8\nend"
	if got, f := valid.Parse(s); f != (api.Fault{}) || valid.Depth(got.Trees[0], 1) != 1 {
		t.Fatal(f)
	}
}
