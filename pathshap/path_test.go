package pathshap_test

import (
	"math"
	"math/big"
	"slices"
	"testing"

	"dendron/api"
	"dendron/pathshap"
	"dendron/ratio"
)

// put is a path of parts.
func put(t *testing.T, l []part) *pathshap.Path {
	t.Helper()
	p := pathshap.New()
	for _, x := range l {
		if e := p.Extend(x.feature, number(x.share.RatString()), x.ok); e != api.OK {
			t.Fatalf("%v: %v", x, e)
		}
	}
	return p
}

// wantPath asks all that a path can be asked; of many features some sums alone.
func wantPath(t *testing.T, p *pathshap.Path, l []part) {
	t.Helper()
	isPart := func(a api.Part, b part) bool {
		return a.Feature == b.feature && a.Ok == b.ok && isBig(a.Share, b.share)
	}
	if got := p.Parts(); p.Len() != len(l) || !slices.EqualFunc(got, l, isPart) {
		t.Fatalf("%d of %v, not %v", p.Len(), got, l)
	}
	if got := p.Weights(); !slices.EqualFunc(got, weightsBySums(l), isBig) {
		t.Fatalf("weights of %v: %q", l, ratio.Texts(got))
	}
	for i, x := range l {
		if at := p.Find(x.feature); at != i+1 {
			t.Fatalf("%d is found at %d, not %d", x.feature, at, i+1)
		}
		if len(l) > 20 && i%9 != 4 {
			continue
		}
		want := total(weightsBySums(slices.Concat(l[:i], l[i+1:])))
		if got, e := p.Sum(i + 1); e != api.OK || !isBig(got, want) {
			t.Fatalf("without %d of %v: %v, %v; not %v", i+1, l, ratio.Print(got), e, want)
		}
	}
}

// wantNoPlace asks for what there is not, which changes nothing.
func wantNoPlace(t *testing.T, p *pathshap.Path) {
	t.Helper()
	for _, at := range []int{0, -1, p.Len() + 1, p.Len() + 2, math.MaxInt, math.MinInt} {
		if e := p.Unwind(at); e != api.ErrRange {
			t.Fatalf("Unwind(%d) of %d: %v", at, p.Len(), e)
		}
		if x, e := p.Sum(at); e != api.ErrRange || !empty(x) {
			t.Fatalf("Sum(%d) of %d: %v, %v", at, p.Len(), x, e)
		}
	}
}

func (d *dice) anyPart() part {
	return part{d.below(1000), big.NewRat(int64(1+d.below(9)), int64(1+d.below(9))), d.below(2) == 0}
}

// anyParts are so many of features that differ.
func (d *dice) anyParts(n int) []part {
	var out []part
	for len(out) < n {
		x := d.anyPart()
		if !slices.ContainsFunc(out, func(y part) bool { return y.feature == x.feature }) {
			out = append(out, x)
		}
	}
	return out
}

// Promise 15.1: a new path has no features, and the one weight of none.
func TestNew(t *testing.T) {
	p := pathshap.New()
	wantPath(t, p, nil)
	wantNoPlace(t, p)
	if got := ratio.Texts(p.Weights()); !slices.Equal(got, []string{"1"}) || p.Find(0) != 0 || p.Find(-1) != 0 || len(p.Parts()) != 0 {
		t.Fatal(got, p.Find(0), p.Parts())
	}
	if p == pathshap.New() {
		t.Fatal("two paths are one")
	}
}

// Promises 15.1, 15.2: weights and sums of few features, told by hand.
func TestPathByHand(t *testing.T) {
	p := pathshap.New()
	for _, c := range []struct {
		feature int
		share   string
		ok      bool
		weights []string
		sums    []string
	}{
		{7, "1/2", true, []string{"1/4", "1/2"}, []string{"1"}},
		{0, "1/4", false, []string{"1/24", "1/24", "0"}, []string{"1/8", "3/4"}},
		{math.MaxInt, "3", true, []string{"3/32", "7/96", "1/48", "0"}, []string{"7/24", "17/12", "1/12"}},
	} {
		if e := p.Extend(c.feature, number(c.share), c.ok); e != api.OK {
			t.Fatal(c, e)
		}
		if got := ratio.Texts(p.Weights()); !slices.Equal(got, c.weights) {
			t.Fatalf("%v: %q", c, got)
		}
		for i, want := range c.sums {
			if x, e := p.Sum(i + 1); e != api.OK || ratio.Print(x) != want {
				t.Fatalf("%v without %d: %s, %v", c, i+1, ratio.Print(x), e)
			}
		}
	}
	if p.Len() != 3 || p.Find(7) != 1 || p.Find(0) != 2 || p.Find(math.MaxInt) != 3 || p.Find(1) != 0 || p.Find(-7) != 0 || p.Find(math.MinInt) != 0 {
		t.Fatal(p.Parts())
	}
}

// Promise 15.1: weights are what the sums over all sets say.
func TestWeightsBySets(t *testing.T) {
	d := dice(5)
	for n := range 9 {
		for range 25 {
			l := d.anyParts(n)
			want := weightsBySets(l)
			if got := put(t, l).Weights(); !slices.EqualFunc(got, want, isBig) || !slices.EqualFunc(weightsBySums(l), want, func(a, b *big.Rat) bool { return a.Cmp(b) == 0 }) {
				t.Fatalf("%v: %q, not %v", l, ratio.Texts(got), want)
			}
		}
	}
}

// Promises 15.1, 15.2: paths by chance that are made longer, shorter, copied and asked.
func TestPathsByChance(t *testing.T) {
	d := dice(9)
	for range 60 {
		paths, lists := []*pathshap.Path{pathshap.New()}, [][]part{nil}
		for range 40 {
			k := d.below(len(paths))
			p, l := paths[k], lists[k]
			switch d.below(5) {
			case 0:
				paths, lists = append(paths, p.Copy()), append(lists, l)
			case 1:
				if len(l) > 0 {
					at := d.below(len(l))
					lists[k] = slices.Concat(l[:at], l[at+1:])
					if e := p.Unwind(at + 1); e != api.OK {
						t.Fatal(e)
					}
				}
			default:
				x := d.anyParts(1)[0]
				if p.Find(x.feature) == 0 {
					lists[k] = append(slices.Clip(l), x)
				}
				if e := p.Extend(x.feature, d.mixed(number(x.share.RatString())), x.ok); (e == api.OK) != (len(lists[k]) > len(l)) {
					t.Fatal(e, x, l)
				}
			}
		}
		for k, p := range paths {
			wantPath(t, p, lists[k])
			wantNoPlace(t, p)
		}
	}
}

// Promises 15.1, 15.2: as many features as there may be, of shares that have nothing in common, and more than that.
func TestLongPaths(t *testing.T) {
	d := dice(15)
	for _, n := range []int{63, 64, 65, 80} {
		l := d.anyParts(n)
		for i := range l {
			l[i].ok = d.below(4) > 0
			l[i].share = big.NewRat(int64(1+d.below(1000)), int64(1+d.below(1000)))
		}
		p := put(t, l)
		wantPath(t, p, l)
		for len(l) > 0 {
			at := d.below(len(l))
			l = slices.Concat(l[:at], l[at+1:])
			if e := p.Unwind(at + 1); e != api.OK {
				t.Fatal(e)
			}
		}
		wantPath(t, p, nil)
	}
}

// Promise 15.2: Extend refuses, the feature ahead of the share, and changes nothing.
func TestExtendWrong(t *testing.T) {
	l := []part{{3, big.NewRat(1, 2), true}, {5, big.NewRat(1, 3), false}}
	p := put(t, l)
	shares := append(zeros(), number("-1"), number("-1/4294967296"), soiled(number("-2/3")))
	for _, ok := range []bool{false, true} {
		for _, feature := range []int{-1, -3, math.MinInt, 3, 5} {
			for _, share := range append(shares, number("1/2"), number("1")) {
				if e := p.Extend(feature, share, ok); e != api.ErrArg {
					t.Fatal(feature, share, e)
				}
			}
		}
		for _, feature := range []int{0, 4, 64, math.MaxInt} {
			for _, share := range shares {
				if e := p.Extend(feature, share, ok); e != api.ErrRange {
					t.Fatal(feature, share, e)
				}
			}
		}
	}
	wantPath(t, p, l)
}

// Promise 15.2: shares of any amount above 0 are taken, and kept in their form.
func TestExtendShares(t *testing.T) {
	for _, text := range []string{"1", "2", "1/4294967296", "18446744073709551617/3", "123456789012345678901234567890/7"} {
		for _, share := range []api.Rat{number(text), soiled(number(text))} {
			for _, ok := range []bool{false, true} {
				l := []part{{0, toBig(share), ok}, {1, big.NewRat(2, 5), true}}
				p := pathshap.New()
				if e, e2 := p.Extend(0, share, ok), p.Extend(1, number("2/5"), true); e != api.OK || e2 != api.OK {
					t.Fatal(e, e2)
				}
				wantPath(t, p, l)
			}
		}
	}
}

// Promise 15.2: a feature that is gone can be put on the path again, and is the last then.
func TestExtendAgain(t *testing.T) {
	l := []part{{3, big.NewRat(1, 2), true}, {5, big.NewRat(1, 3), false}, {0, big.NewRat(3, 4), true}}
	p := put(t, l)
	if e := p.Unwind(1); e != api.OK || p.Find(3) != 0 {
		t.Fatal(e, p.Find(3))
	}
	wantPath(t, p, l[1:])
	if e := p.Extend(3, number("2/7"), false); e != api.OK {
		t.Fatal(e)
	}
	wantPath(t, p, append(l[1:3:3], part{3, big.NewRat(2, 7), false}))
}

// Promises 15.1, 15.2: of a path that New did not give: ErrState, 0, none; a copy of nil is nil.
func TestUnmadePath(t *testing.T) {
	var none *pathshap.Path
	if none.Copy() != nil {
		t.Fatal("a copy of nil is not nil")
	}
	for _, p := range []*pathshap.Path{none, {}, (&pathshap.Path{}).Copy()} {
		for _, at := range []int{-1, 0, 1, 2, math.MaxInt, math.MinInt} {
			if e := p.Extend(at, ratio.One(), true); e != api.ErrState {
				t.Fatal(at, e)
			}
			if e := p.Extend(at, ratio.Zero(), false); e != api.ErrState {
				t.Fatal(at, e)
			}
			if e := p.Unwind(at); e != api.ErrState {
				t.Fatal(at, e)
			}
			if x, e := p.Sum(at); e != api.ErrState || !empty(x) {
				t.Fatal(at, x, e)
			}
			if p.Find(at) != 0 {
				t.Fatal(at, p.Find(at))
			}
		}
		if p.Len() != 0 || len(p.Weights()) != 0 || len(p.Parts()) != 0 {
			t.Fatal(p.Len(), p.Weights(), p.Parts())
		}
	}
}
