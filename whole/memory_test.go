package whole_test

import (
	"slices"
	"testing"

	"dendron/api"
	"dendron/whole"
)

// answers are all numbers that the calls answer of two, those beside an error too.
func answers(a, b api.Int) []api.Int {
	out := []api.Int{
		whole.Clean(a), whole.Neg(a), whole.Abs(a), whole.Add(a, b), whole.Sub(a, b), whole.Mul(a, b), whole.Gcd(a, b),
		whole.Sum([]api.Int{a}), whole.Sum([]api.Int{a, b}), whole.Sum([]api.Int{a, b, a}), whole.Of(5), whole.Of(-1 << 40),
	}
	take := func(x api.Int, e api.Errno) { out = append(out, x) }
	q, r, _ := whole.DivMod(a, b)
	g, x, y := whole.Bezout(a, b)
	out = append(out, q, r, g, x, y)
	for _, n := range []int{-1, 0, 1, 2, 3} {
		take(whole.Pow(a, n))
		take(whole.Fact(n))
		take(whole.Choose(3, n))
	}
	take(whole.Parse("0"))
	take(whole.Parse("-18446744073709551616"))
	return out
}

func few() []api.Int {
	var out []api.Int
	for _, abs := range []api.Nat{nil, {1}, {7}, {0, 1}, {5, 6}, {1, 2, 3}, {0}, {1 << 32}, {1<<32 | 1, 0}, {1, 2, 3, 4, 5}} {
		out = append(out, api.Int{Abs: abs}, api.Int{Neg: true, Abs: abs})
	}
	return out
}

func cloned(a api.Int) api.Int {
	return api.Int{Neg: a.Neg, Abs: slices.Clone(a.Abs)}
}

// Each answer has limbs of its own: all of its memory is written over, and neither an argument nor another answer may tell.
func TestAnswersHaveTheirOwnLimbs(t *testing.T) {
	for _, a := range few() {
		for _, b := range few() {
			c, d := cloned(a), cloned(b)
			got, right := answers(c, d), answers(a, b)
			for i, x := range got {
				if !whole.Right(x) || !same(x, right[i]) {
					t.Fatalf("answer %d of %v and %v: %v", i, a, b, x)
				}
				l := x.Abs[:cap(x.Abs)]
				for j := range l {
					l[j] = 1<<64 - 1
				}
			}
			if !same(a, c) || !same(b, d) {
				t.Fatalf("arguments %v and %v have turned", a, b)
			}
			if !slices.EqualFunc(answers(c, d), right, same) {
				t.Fatalf("answers of %v and %v hang on what became of the ones ahead", a, b)
			}
		}
	}
}

// One number in two places: it is taken twice, and stays.
func TestOneNumberTwice(t *testing.T) {
	for _, a := range few() {
		keep := cloned(a)
		want(t, "Sub", whole.Sub(a, a), toBig(api.Int{}))
		if whole.Cmp(a, a) != 0 || !slices.EqualFunc(answers(a, a), answers(a, cloned(a)), same) || !same(keep, a) {
			t.Fatalf("%v", a)
		}
	}
}

// P1: whatever there is, the calls end without a panic, and take all forms of 0 for the same.
func TestFormsOfZero(t *testing.T) {
	zeros := []api.Int{
		{}, {Neg: true}, {Abs: api.Nat{}}, {Neg: true, Abs: api.Nat{0}}, {Abs: api.Nat{0, 0, 0}}, {Neg: true, Abs: api.Nat{1 << 32, 1 << 63, 0}},
	}
	for _, zero := range zeros {
		for _, a := range few() {
			if !slices.EqualFunc(answers(zero, a), answers(api.Int{}, a), same) || !slices.EqualFunc(answers(a, zero), answers(a, api.Int{}), same) {
				t.Fatalf("%v and %v", zero, a)
			}
		}
		n, ok := whole.To(zero)
		if n != 0 || !ok || whole.Sign(zero) != 0 || whole.Print(zero) != "0" || whole.Cmp(zero, api.Int{}) != 0 || whole.Cmp(api.Int{}, zero) != 0 {
			t.Fatalf("%v", zero)
		}
	}
}
