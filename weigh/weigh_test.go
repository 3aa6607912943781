package weigh_test

import (
	"math/big"
	"testing"

	"dendron/api"
	"dendron/ratio"
	"dendron/weigh"
)

// Promise 14.1: Fact(n) is the product of all numbers from 1 to n.
func TestFact(t *testing.T) {
	for _, w := range tables() {
		for n := range most + 1 {
			if x, e := w.Fact(n); e != api.OK || !isWhole(x, product(n)) {
				t.Fatalf("Fact(%d) is %v, %v", n, x, e)
			}
		}
	}
}

// Promise 14.1: Fact of what is not 0 to 64 is ErrRange.
func TestFactWrong(t *testing.T) {
	for _, w := range tables() {
		for _, n := range wrong() {
			if x, e := w.Fact(n); e != api.ErrRange || x.Neg || x.Abs != nil {
				t.Fatalf("Fact(%d) is %v, %v", n, x, e)
			}
		}
	}
}

// Promise 14.1: Weight(s, n) is s! (n - s - 1)! / n!, where n is 1 to 64 and s is 0 to n - 1; else ErrRange.
func TestWeight(t *testing.T) {
	for _, w := range tables() {
		for n := -2; n <= most+3; n++ {
			for s := -2; s <= most+3; s++ {
				x, e := w.Weight(s, n)
				if n < 1 || n > most || s < 0 || s >= n {
					if e != api.ErrRange || !empty(x) {
						t.Fatalf("Weight(%d, %d) is %v, %v", s, n, x, e)
					}
				} else if e != api.OK || !isBig(x, parts(s, n-s-1, n)) {
					t.Fatalf("Weight(%d, %d) is %s, %v", s, n, ratio.Print(x), e)
				}
			}
		}
	}
}

// Promise 14.1: Pair(s, n) is s! (n - s - 2)! / (2 (n - 1)!), where n is 2 to 64 and s is 0 to n - 2; else ErrRange.
func TestPair(t *testing.T) {
	for _, w := range tables() {
		for n := -2; n <= most+3; n++ {
			for s := -2; s <= most+3; s++ {
				x, e := w.Pair(s, n)
				if n < 2 || n > most || s < 0 || s > n-2 {
					if e != api.ErrRange || !empty(x) {
						t.Fatalf("Pair(%d, %d) is %v, %v", s, n, x, e)
					}
				} else if want := parts(s, n-s-2, n-1); e != api.OK || !isBig(x, want.Mul(want, big.NewRat(1, 2))) {
					t.Fatalf("Pair(%d, %d) is %s, %v", s, n, ratio.Print(x), e)
				}
			}
		}
	}
}

// Promise 14.1: All(n) is Weight of 0 to n - 1, where n is 1 to 64; else ErrRange.
func TestAll(t *testing.T) {
	for _, w := range tables() {
		for n := 1; n <= most; n++ {
			l, e := w.All(n)
			if e != api.OK || len(l) != n {
				t.Fatalf("All(%d) is %q, %v", n, ratio.Texts(l), e)
			}
			for s, x := range l {
				if !isBig(x, parts(s, n-s-1, n)) {
					t.Fatalf("All(%d) is %q", n, ratio.Texts(l))
				}
			}
		}
		for _, n := range append(wrong(), 0) {
			if l, e := w.All(n); e != api.ErrRange || len(l) != 0 {
				t.Fatalf("All(%d) is %q, %v", n, ratio.Texts(l), e)
			}
		}
	}
}

// needs is what promise 14.2 says of u and v.
func needs(u, v int) (*big.Rat, *big.Rat) {
	in, out := new(big.Rat), new(big.Rat)
	if u > 0 {
		in = parts(u-1, v, u+v)
	}
	if v > 0 {
		out.Neg(parts(u, v-1, u+v))
	}
	return in, out
}

// Promise 14.2: Need(u, v) is (u - 1)! v! / (u + v)! and, below 0, u! (v - 1)! / (u + v)!; 0, if there is none.
func TestNeed(t *testing.T) {
	for _, w := range tables() {
		for u := -2; u <= most+3; u++ {
			for v := -2; v <= most+3; v++ {
				a, b, e := w.Need(u, v)
				if u < 0 || v < 0 || u+v > most {
					if e != api.ErrRange || !empty(a) || !empty(b) {
						t.Fatalf("Need(%d, %d) is %v, %v, %v", u, v, a, b, e)
					}
				} else if in, out := needs(u, v); e != api.OK || !isBig(a, in) || !isBig(b, out) {
					t.Fatalf("Need(%d, %d) is %s, %s, %v", u, v, ratio.Print(a), ratio.Print(b), e)
				}
			}
		}
	}
}

// All calls of two counts refuse counts of any size, also where sums of them would wrap.
func TestFarCounts(t *testing.T) {
	w := weigh.New()
	var few []int
	for i := range most + 1 {
		few = append(few, i)
	}
	for _, a := range wrong() {
		for _, b := range append(wrong(), few...) {
			for _, at := range [2][2]int{{a, b}, {b, a}} {
				if x, e := w.Weight(at[0], at[1]); e != api.ErrRange || !empty(x) {
					t.Fatalf("Weight of %v is %v, %v", at, x, e)
				}
				if x, e := w.Pair(at[0], at[1]); e != api.ErrRange || !empty(x) {
					t.Fatalf("Pair of %v is %v, %v", at, x, e)
				}
				if x, y, e := w.Need(at[0], at[1]); e != api.ErrRange || !empty(x) || !empty(y) {
					t.Fatalf("Need of %v is %v, %v, %v", at, x, y, e)
				}
			}
		}
	}
}

// Promise 14.3: the weights of all coalitions without one player come to 1.
func TestWeightsComeToOne(t *testing.T) {
	w := weigh.New()
	for n := 1; n <= most; n++ {
		sum := new(big.Rat)
		for s := range n {
			x, e := w.Weight(s, n)
			if e != api.OK {
				t.Fatal(s, n, e)
			}
			sum.Add(sum, new(big.Rat).Mul(toBig(x), new(big.Rat).SetInt(choose(n-1, s))))
		}
		if sum.Cmp(big.NewRat(1, 1)) != 0 {
			t.Fatalf("of %d players they come to %s", n, sum.RatString())
		}
	}
}

// Promise 14.3: u times the first of Need and v times the second come to 1, -1 or 0.
func TestNeedsComeToDifference(t *testing.T) {
	w := weigh.New()
	for u := range most + 1 {
		for v := range most + 1 - u {
			a, b, e := w.Need(u, v)
			sum := ratio.Add(ratio.Mul(ratio.Of(u), a), ratio.Mul(ratio.Of(v), b))
			want := "0"
			switch {
			case u > 0 && v == 0:
				want = "1"
			case u == 0 && v > 0:
				want = "-1"
			}
			if e != api.OK || ratio.Print(sum) != want {
				t.Fatalf("of %d and %d they come to %s, not %s, %v", u, v, ratio.Print(sum), want, e)
			}
		}
	}
}

// What Need says is what coalitions of the u and v say together: the mean, over all orders of coming, of what one changes.
func TestNeedOfOrders(t *testing.T) {
	w := weigh.New()
	for u := range 5 {
		for v := range 5 - u {
			in, out := gained(u, v)
			a, b, e := w.Need(u, v)
			if e != api.OK || !isBig(a, in) || !isBig(b, out) {
				t.Fatalf("Need(%d, %d) is %s, %s, %v; not %s, %s", u, v, ratio.Print(a), ratio.Print(b), e, in.RatString(), out.RatString())
			}
		}
	}
}

// gained goes through all coalitions without the player that joins, and weighs them by how many orders there are.
func gained(u, v int) (*big.Rat, *big.Rat) {
	n := u + v
	worth := func(set int) int64 {
		if set == 1<<u-1 {
			return 1
		}
		return 0
	}
	one := func(player int) *big.Rat {
		sum := new(big.Rat)
		for set := range 1 << n {
			if set>>player&1 == 1 {
				continue
			}
			size := 0
			for i := range n {
				size += set >> i & 1
			}
			sum.Add(sum, new(big.Rat).Mul(parts(size, n-size-1, n), big.NewRat(worth(set|1<<player)-worth(set), 1)))
		}
		return sum
	}
	in, out := new(big.Rat), new(big.Rat)
	if u > 0 {
		in = one(0)
	}
	if v > 0 {
		out = one(n - 1)
	}
	return in, out
}

// The chapter's examples, and the sixth of the whole.
func TestExamples(t *testing.T) {
	w := weigh.New()
	if x, e := w.Weight(1, 3); e != api.OK || ratio.Print(x) != "1/6" {
		t.Error(ratio.Print(x), e)
	}
	if a, b, e := w.Need(1, 1); e != api.OK || ratio.Print(a) != "1/2" || ratio.Print(b) != "-1/2" {
		t.Error(ratio.Print(a), ratio.Print(b), e)
	}
}

// Errors: of a nil table each call tells ErrState, whatever it is asked.
func TestNilTable(t *testing.T) {
	var w *weigh.Table
	for _, at := range [][2]int{{0, 1}, {1, 3}, {0, 2}, {-1, 5}, {5, -1}, {64, 64}, {65, 65}, {0, 0}} {
		if x, e := w.Fact(at[0]); e != api.ErrState || x.Neg || x.Abs != nil {
			t.Errorf("Fact of %v is %v, %v", at, x, e)
		}
		if x, e := w.Weight(at[0], at[1]); e != api.ErrState || !empty(x) {
			t.Errorf("Weight of %v is %v, %v", at, x, e)
		}
		if x, e := w.Pair(at[0], at[1]); e != api.ErrState || !empty(x) {
			t.Errorf("Pair of %v is %v, %v", at, x, e)
		}
		if x, y, e := w.Need(at[0], at[1]); e != api.ErrState || !empty(x) || !empty(y) {
			t.Errorf("Need of %v is %v, %v, %v", at, x, y, e)
		}
		if l, e := w.All(at[1]); e != api.ErrState || len(l) != 0 {
			t.Errorf("All of %v is %v, %v", at, l, e)
		}
	}
}
