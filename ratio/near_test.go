package ratio_test

import (
	"math"
	"math/big"
	"slices"
	"testing"

	"dendron/api"
	"dendron/ratio"
)

// Promise 3.4: Near.
func TestNear(t *testing.T) {
	tests := []struct {
		a    string
		most int
		want string
	}{
		{"22/7", 3, "3"}, {"314159/100000", 10, "22/7"}, {"-314159/100000", 10, "-22/7"}, {"314159/100000", 200, "355/113"}, {"0", 1, "0"}, {"5/3", 3, "5/3"}, {"5/3", 4096, "5/3"},
		// Two as near: of one Den the lesser, else the one of the lesser Den, on either side.
		{"1/2", 1, "0"}, {"-1/2", 1, "-1"}, {"3/2", 1, "1"}, {"-3/2", 1, "-2"}, {"7/2", 1, "3"},
		{"1/4", 2, "0"}, {"3/4", 2, "1"}, {"-1/4", 2, "0"}, {"-3/4", 2, "-1"}, {"5/12", 3, "1/2"}, {"7/12", 3, "1/2"}, {"-5/12", 3, "-1/2"}, {"-7/12", 3, "-1/2"},
		{"1/6", 3, "0"}, {"5/6", 3, "1"},
		{"1/8192", 4096, "0"}, {"8191/8192", 4096, "1"}, {"3/16382", 4096, "1/4096"}, {"1/4097", 4096, "1/4096"}, {"1/4096", 4096, "1/4096"}, {"1/4096", 4095, "1/4095"},
	}
	for _, c := range tests {
		eachForm(t, number(c.a), func(a api.Rat) {
			want(t, c.a, must(t)(ratio.Near(a, c.most)), number(c.want))
		})
	}
}

func TestNearRange(t *testing.T) {
	for _, a := range []api.Rat{{}, ratio.One(), ratio.Frac(-22, 7)} {
		for _, most := range []int{0, -1, 4097, 4098, math.MaxInt, math.MinInt} {
			got, e := ratio.Near(a, most)
			wantError(t, got, e, api.ErrRange)
		}
		for _, most := range []int{1, 2, 4095, 4096} {
			must(t)(ratio.Near(a, most))
		}
	}
}

// near goes through all dens: the first that is nearer than all ahead of it stays; of one den the lesser comes first.
func near(x *big.Rat, most int) *big.Rat {
	var out, gap *big.Rat
	for den := range int64(most) {
		den := big.NewInt(den + 1)
		low := new(big.Int).Mul(x.Num(), den)
		low.Div(low, x.Denom())
		for _, num := range []*big.Int{low, new(big.Int).Add(low, big.NewInt(1))} {
			y := new(big.Rat).SetFrac(num, den)
			d := new(big.Rat).Sub(x, y)
			if d.Abs(d); out == nil || d.Cmp(gap) < 0 {
				out, gap = y, d
			}
		}
	}
	return out
}

func TestNearAgainstAllDens(t *testing.T) {
	eachOne(t, func(a api.Rat, x *big.Rat) {
		for _, most := range []int{1, 2, 3, 7, 64} {
			want(t, "Near", must(t)(ratio.Near(a, most)), near(x, most))
		}
	})
	for _, x := range samples() {
		want(t, "Near", must(t)(ratio.Near(ofBig(x), 4096)), near(x, 4096))
	}
	d := dice(9)
	for range 2000 {
		x, most := d.small(1+d.below(60)), 1+d.below(20)
		want(t, "Near", must(t)(ratio.Near(forms(x)[d.below(4)], most)), near(x, most))
	}
}

// What lies in the middle of two neighbours is as near to both.
func TestNearInTheMiddle(t *testing.T) {
	for most := 1; most <= 16; most++ {
		l, e := ratio.Between(ratio.Of(-2), ratio.Of(2), most)
		if e != api.OK {
			t.Fatal(e)
		}
		for i := range len(l) - 1 {
			x := new(big.Rat).Add(toBig(l[i]), toBig(l[i+1]))
			x.Mul(x, big.NewRat(1, 2))
			want(t, "Near", must(t)(ratio.Near(ofBig(x), most)), near(x, most))
		}
	}
}

// Promise 3.4: Between.
func TestBetween(t *testing.T) {
	tests := []struct {
		a, b string
		most int
		want []string
	}{
		{"0", "1", 4, []string{"0", "1/4", "1/3", "1/2", "2/3", "3/4", "1"}}, {"-1/2", "1/3", 3, []string{"-1/2", "-1/3", "0", "1/3"}},
		{"1/5", "1/4", 3, nil}, {"1/7", "1/7", 6, nil}, {"1/7", "1/7", 7, []string{"1/7"}}, {"-1/7", "-1/7", 64, []string{"-1/7"}}, {"1", "0", 64, nil}, {"1/3", "1/4", 64, nil},
		{"-5/2", "5/2", 1, []string{"-2", "-1", "0", "1", "2"}}, {"5/2", "11/4", 1, nil}, {"99/100", "201/200", 64, []string{"1"}}, {"63/64", "65/64", 64, []string{"63/64", "1", "65/64"}},
		{"18446744073709551616", "36893488147419103233/2", 2, []string{"18446744073709551616", "36893488147419103233/2"}},
	}
	for _, c := range tests {
		eachForm(t, number(c.a), func(a api.Rat) {
			eachForm(t, number(c.b), func(b api.Rat) {
				got, e := ratio.Between(a, b, c.most)
				if e != api.OK || !slices.Equal(ratio.Texts(got), c.want) {
					t.Fatalf("Between(%s, %s, %d): %v %v", c.a, c.b, c.most, ratio.Texts(got), e)
				}
			})
		})
	}
}

func TestBetweenErrors(t *testing.T) {
	for _, most := range []int{0, -1, 65, 66, 4096, math.MaxInt, math.MinInt} {
		for _, b := range []api.Rat{ratio.Of(-1), ratio.Of(1), ratio.Of(math.MaxInt)} {
			got, e := ratio.Between(ratio.Zero(), b, most)
			wantNone(t, got, e, api.ErrRange)
		}
	}
	for _, most := range []int{1, 2, 63, 64} {
		got, e := ratio.Between(ratio.Of(1), ratio.Of(-1), most)
		wantNone(t, got, e, api.OK)
		got, e = ratio.Between(ratio.Of(math.MinInt), ratio.Of(math.MaxInt), most)
		wantNone(t, got, e, api.ErrLimit)
		got, e = ratio.Between(ratio.Zero(), ofBig(number("1e5000")), most)
		wantNone(t, got, e, api.ErrLimit)
	}
}

func wantNone(t *testing.T, got []api.Rat, e, want api.Errno) {
	t.Helper()
	if len(got) != 0 || e != want {
		t.Fatalf("%v with %d numbers, not %v with none", e, len(got), want)
	}
}

// A thousand numbers may be, one more may not: with whole numbers, and with many Dens.
func TestBetweenAThousand(t *testing.T) {
	for _, c := range []struct{ most, last int }{{1, 999}, {1, 1000}} {
		got, e := ratio.Between(ratio.Of(-5), ratio.Of(c.last-5), c.most)
		if c.last == 1000 {
			wantNone(t, got, e, api.ErrLimit)
			continue
		}
		if e != api.OK || len(got) != 1000 {
			t.Fatalf("%d numbers, %v", len(got), e)
		}
	}
	all := allBetween(big.NewRat(-1, 3), big.NewRat(2, 1), 64)
	for _, from := range []int{0, 1, 77} {
		a := ofBig(all[from])
		got, e := ratio.Between(a, ofBig(all[from+999]), 64)
		if e != api.OK || len(got) != 1000 {
			t.Fatalf("%d numbers, %v", len(got), e)
		}
		wantAll(t, got, all[from:from+1000])
		got, e = ratio.Between(a, ofBig(all[from+1000]), 64)
		wantNone(t, got, e, api.ErrLimit)
		short := new(big.Rat).Sub(all[from+1000], number("1/1000000"))
		if got, e = ratio.Between(a, ofBig(short), 64); e != api.OK || len(got) != 1000 {
			t.Fatalf("%d numbers, %v", len(got), e)
		}
	}
}

// allBetween takes each den's multiples, leaves out what came of a lesser den, and sorts.
func allBetween(x, y *big.Rat, most int) []*big.Rat {
	var out []*big.Rat
	for den := range int64(most) {
		den := big.NewInt(den + 1)
		num := new(big.Int).Mul(x.Num(), den)
		for num.Div(num, x.Denom()); ; num.Add(num, big.NewInt(1)) {
			z := new(big.Rat).SetFrac(num, den)
			if z.Cmp(y) > 0 {
				break
			}
			if z.Cmp(x) >= 0 && z.Denom().Cmp(den) == 0 {
				out = append(out, z)
			}
		}
	}
	slices.SortFunc(out, (*big.Rat).Cmp)
	return out
}

func wantAll(t *testing.T, got []api.Rat, all []*big.Rat) {
	t.Helper()
	if len(got) != len(all) {
		t.Fatalf("%d numbers, not %d", len(got), len(all))
	}
	for i, a := range got {
		want(t, "Between", a, all[i])
	}
}

func TestBetweenAgainstAllDens(t *testing.T) {
	d := dice(10)
	for range 1500 {
		x := d.small(1 + d.below(70))
		y := new(big.Rat).Add(x, big.NewRat(int64(d.below(60)-5), int64(1+d.below(70))))
		most := 1 + d.below(1+d.below(64))
		all := allBetween(x, y, most)
		got, e := ratio.Between(forms(x)[d.below(4)], forms(y)[d.below(4)], most)
		if len(all) > 1000 {
			wantNone(t, got, e, api.ErrLimit)
			continue
		}
		if e != api.OK {
			t.Fatal(e)
		}
		wantAll(t, got, all)
	}
}
