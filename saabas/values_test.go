package saabas_test

import (
	"math/big"
	"slices"
	"testing"

	"dendron/api"
	"dendron/expect"
	"dendron/ratio"
	"dendron/route"
	"dendron/saabas"
)

func wantValues(t *testing.T, m api.Model, r []api.Cell, want []*big.Rat) {
	t.Helper()
	if l, e := saabas.Values(m, r); e != api.OK || !slices.EqualFunc(l, want, isBig) {
		t.Fatalf("%v of %v: %v, %v; not %v", r, m, l, e, want)
	}
}

func wantOrder(t *testing.T, m api.Model, r []api.Cell, want []int) {
	t.Helper()
	if l, e := saabas.Order(m, r); e != api.OK || !slices.Equal(l, want) {
		t.Fatalf("%v of %v: %v, %v; not %v", r, m, l, e, want)
	}
}

// stumps is a model of one split for each number that is told: its row's entry adds so much to that feature, whatever else there is.
func stumps(features int, adds ...api.Rat) (api.Model, []api.Cell) {
	m := api.Model{Features: features}
	for i, x := range adds {
		m.Trees = append(m.Trees, []api.Node{split(i%features, "0", 1, 2, "2"), {Leaf: true, Value: ratio.Neg(x), Cover: ratio.One()}, {Leaf: true, Value: x, Cover: ratio.One()}})
	}
	return m, make([]api.Cell, features)
}

// Promise 12.1: sums over splits of one tree and of several, and the order by their amounts.
func TestValues(t *testing.T) {
	for line, want := range map[string][]string{
		"1 1": {"3/4", "-74"}, "0 1": {"-9/4", "-75"}, "1/2 ?": {"3/4", "23"}, "? 0": {"3/4", "-74"}, "? -1": {"3/4", "-77"}, "-1 5": {"-9/4", "25"},
	} {
		l, e := saabas.Values(three(), row(line))
		if e != api.OK || !slices.Equal(ratio.Texts(l), want) {
			t.Fatalf("%s: %q, %v; not %q", line, ratio.Texts(l), e, want)
		}
		wantOrder(t, three(), row(line), []int{1, 0})
	}
	m := model(1, []api.Node{split(0, "1/2", 1, 2, "4"), leaf("0", "1"), leaf("1", "3")})
	wantValues(t, m, row("1"), []*big.Rat{big.NewRat(1, 4)})
	wantOrder(t, m, row("1"), []int{0})
}

// Promises 12.1, 12.2: a feature for which no split asks has 0, in its form, and no place in the order.
func TestValuesOfNoSplits(t *testing.T) {
	for features := range 65 {
		want := slices.Repeat([]*big.Rat{new(big.Rat)}, features)
		r := make([]api.Cell, features)
		for _, m := range []api.Model{{Features: features}, model(features, []api.Node{leaf("7", "2")})} {
			wantValues(t, m, r, want)
			wantOrder(t, m, r, nil)
		}
		for asked := range features {
			m := model(features, []api.Node{split(asked, "0", 1, 2, "4"), leaf("0", "1"), leaf("1", "3")})
			want[asked] = big.NewRat(1, 4)
			wantValues(t, m, r, want)
			wantOrder(t, m, r, []int{asked})
			want[asked] = new(big.Rat)
		}
	}
}

// Promise 12.1: what comes to 0, by splits that change nothing, or by splits that take back what others add, has no place in the order.
func TestOrderOfZeros(t *testing.T) {
	m, r := stumps(3, ratio.Of(5), ratio.Zero(), ratio.Of(2), ratio.Of(-5), ratio.Zero(), ratio.Of(-1))
	wantValues(t, m, r, []*big.Rat{new(big.Rat), new(big.Rat), big.NewRat(1, 1)})
	wantOrder(t, m, r, []int{2})
	m, r = stumps(2, ratio.Frac(1, 3), ratio.Zero(), ratio.Frac(1, 6), api.Rat{}, ratio.Frac(-1, 2))
	wantValues(t, m, r, []*big.Rat{new(big.Rat), new(big.Rat)})
	wantOrder(t, m, r, nil)
}

// Promise 12.1: amounts alone count, not signs; of one amount the first feature comes first.
func TestOrder(t *testing.T) {
	for _, c := range []struct {
		adds []int
		want []int
	}{
		{[]int{1, 2, 3}, []int{2, 1, 0}}, {[]int{3, 2, 1}, []int{0, 1, 2}}, {[]int{2, 3, 1}, []int{1, 0, 2}}, {[]int{-3, 2, 1}, []int{0, 1, 2}}, {[]int{-1, -2, -3}, []int{2, 1, 0}},
		{[]int{2, -2, 2}, []int{0, 1, 2}}, {[]int{-2, 2, -2}, []int{0, 1, 2}}, {[]int{1, -2, 2}, []int{1, 2, 0}}, {[]int{-1, 1, -2}, []int{2, 0, 1}}, {[]int{0, 1, -1}, []int{1, 2}},
		{[]int{1, -3, 0, 3, 2, -1, -3, 2}, []int{1, 3, 6, 4, 7, 0, 5}},
	} {
		var adds []api.Rat
		for _, x := range c.adds {
			adds = append(adds, ratio.Frac(x, 7))
		}
		m, r := stumps(len(adds), adds...)
		wantOrder(t, m, r, c.want)
	}
}

// Promise 12.1: orders of all 64 features: rising, falling, all of one amount, and by chance with many of one amount.
func TestOrderOfMost(t *testing.T) {
	d := dice(7)
	for k := range 40 {
		var adds []api.Rat
		for i := range 64 {
			switch k {
			case 0:
				adds = append(adds, ratio.Of(i+1))
			case 1:
				adds = append(adds, ratio.Of(i-64))
			case 2:
				adds = append(adds, ratio.Frac(1-i%2*2, 3))
			default:
				adds = append(adds, ratio.Frac(d.below(9)-4, 1+d.below(3)))
			}
		}
		m, r := stumps(64, adds...)
		var values []*big.Rat
		for _, x := range adds {
			values = append(values, toBig(x))
		}
		wantValues(t, m, r, values)
		wantOrder(t, m, r, orderBySight(values))
	}
}

// Promises 12.1, 12.2: models and rows by chance; values come to what is predicted, less the base.
func TestValuesByChance(t *testing.T) {
	d := dice(11)
	for range 4000 {
		m := d.anyModel(4, 7)
		r := d.anyRow(m.Features)
		values := valuesBySight(m, r)
		wantValues(t, m, r, values)
		wantOrder(t, m, r, orderBySight(values))
		wantWhole(t, m, r)
	}
}

// wantWhole asks whether all values come to what is predicted, less the base.
func wantWhole(t *testing.T, m api.Model, r []api.Cell) {
	t.Helper()
	l, e := saabas.Values(m, r)
	x, e2 := route.Predict(m, r)
	base, e3 := expect.Base(m)
	if e != api.OK || e2 != api.OK || e3 != api.OK || !ratio.Same(ratio.Sum(l), ratio.Sub(x, base)) {
		t.Fatalf("%v of %v: %v of %v and %v, %v %v %v", r, m, l, x, base, e, e2, e3)
	}
}

// Promises 12.1, 12.2: the longest ways of the most trees, whose covers have nothing in common, in time.
func TestMostValues(t *testing.T) {
	d := dice(13)
	for _, features := range []int{2, 64} {
		m := api.Model{Features: features}
		for range 64 {
			m.Trees = append(m.Trees, d.weighed(chain(127, features, d.below(2) == 0)))
		}
		r := make([]api.Cell, features)
		wantWhole(t, m, r)
		values, _ := saabas.Values(m, r)
		var all []*big.Rat
		for _, x := range values {
			all = append(all, toBig(x))
		}
		wantOrder(t, m, r, orderBySight(all))
	}
}

// weighed is a chain with other covers, and other values, of its leaves.
func (d *dice) weighed(t []api.Node) []api.Node {
	for i := len(t) - 1; i >= 0; i-- {
		if t[i].Leaf {
			t[i].Value, t[i].Cover = ratio.Of(d.below(100)), ratio.Of(1+d.below(1000))
		} else {
			t[i].Cover = ratio.Add(t[t[i].Left].Cover, t[t[i].Right].Cover)
		}
	}
	return t
}
