package ratio_test

import (
	"slices"
	"testing"

	"dendron/api"
	"dendron/ratio"
)

// answers are all numbers that the calls answer of two, those beside an error too.
func answers(a, b api.Rat) []api.Rat {
	out := []api.Rat{
		ratio.Clean(a), ratio.Zero(), ratio.One(), ratio.Of(5), ratio.Int(a.Num), ratio.Frac(1, 0), ratio.Frac(6, -4),
		ratio.Add(a, b), ratio.Sub(a, b), ratio.Mul(a, b), ratio.Neg(a), ratio.Abs(a), ratio.Min(a, b), ratio.Max(a, b), ratio.Min(b, a), ratio.Max(b, a),
		ratio.Sum([]api.Rat{a}), ratio.Sum([]api.Rat{a, b}), ratio.Sum([]api.Rat{a, b, a}),
	}
	take := func(x api.Rat, _ api.Errno) { out = append(out, x) }
	take(ratio.Make(a.Num, b.Num))
	take(ratio.Div(a, b))
	take(ratio.Inv(a))
	take(ratio.Mean([]api.Rat{a, b}))
	take(ratio.Mean([]api.Rat{a}))
	take(ratio.Simplest(a, b))
	take(ratio.Simplest(a, a))
	for _, n := range []int{-2, -1, 0, 1, 2, 5000} {
		take(ratio.Pow(a, n))
	}
	for _, most := range []int{0, 1, 2, 100} {
		take(ratio.Near(a, most))
	}
	take(ratio.Parse("-1.50"))
	take(ratio.Parse("0"))
	l, _ := ratio.Between(a, b, 3)
	out = append(out, l...)
	for _, n := range [...]api.Int{ratio.Floor(a), ratio.Ceil(a), ratio.Round(a)} {
		out = append(out, api.Rat{Num: n})
	}
	parts := ratio.Fold(a)
	take(ratio.Unfold(parts))
	take(ratio.Unfold([]api.Int{a.Num}))
	take(ratio.Unfold([]api.Int{a.Num, b.Num}))
	for _, n := range parts {
		out = append(out, api.Rat{Num: n})
	}
	return out
}

func few() []api.Rat {
	var out []api.Rat
	for _, num := range []api.Nat{nil, {1}, {7}, {0, 1}, {5, 6}, {1, 2, 3}, {1<<32 | 1, 0}} {
		for _, den := range []api.Nat{nil, {1}, {3}, {0, 1}, {14, 0}, {1, 2, 3, 4}} {
			out = append(out, api.Rat{Num: api.Int{Abs: num}, Den: den}, api.Rat{Num: api.Int{Neg: true, Abs: num}, Den: den})
		}
	}
	return out
}

func cloned(a api.Rat) api.Rat {
	return api.Rat{Num: api.Int{Neg: a.Num.Neg, Abs: slices.Clone(a.Num.Abs)}, Den: slices.Clone(a.Den)}
}

func writeOver(l api.Nat) {
	l = l[:cap(l)]
	for i := range l {
		l[i] = 1<<64 - 1
	}
}

// Each answer has limbs of its own: all of its memory is written over, and neither an argument nor another answer may tell.
func TestAnswersHaveTheirOwnLimbs(t *testing.T) {
	for _, a := range few() {
		for _, b := range few() {
			c, d := cloned(a), cloned(b)
			got, right := answers(c, d), answers(a, b)
			for i, x := range got {
				if !same(x, right[i]) {
					t.Fatalf("answer %d of %v and %v: %v", i, a, b, x)
				}
				writeOver(x.Num.Abs)
				writeOver(x.Den)
			}
			if !same(a, c) || !same(b, d) {
				t.Fatalf("arguments %v and %v have turned", a, b)
			}
			if !slices.EqualFunc(answers(c, d), right, same) {
				t.Fatalf("answers of %v and %v hang on what became of the ones ahead", a, b)
			}
		}
	}
}

// One number in two places: it is taken twice, and stays.
func TestOneNumberTwice(t *testing.T) {
	for _, a := range few() {
		keep := cloned(a)
		if !same(ratio.Sub(a, a), ratio.Zero()) || !ratio.Same(a, a) || !slices.EqualFunc(answers(a, a), answers(a, cloned(a)), same) || !same(keep, a) {
			t.Fatalf("%v", a)
		}
	}
}

// P1: whatever there is, the calls end without a panic, and take all forms of 0 for the same.
func TestFormsOfZero(t *testing.T) {
	zeros := []api.Rat{
		{}, {Num: api.Int{Neg: true}}, {Num: api.Int{Neg: true, Abs: api.Nat{0, 0}}, Den: api.Nat{}}, {Den: api.Nat{0}}, {Den: api.Nat{1 << 32, 0}},
		{Den: api.Nat{1}}, {Num: api.Int{Neg: true, Abs: api.Nat{1 << 32}}, Den: api.Nat{1, 2, 3}},
	}
	for _, zero := range zeros {
		for _, a := range few() {
			if !slices.EqualFunc(answers(zero, a), answers(zeros[0], a), same) || !slices.EqualFunc(answers(a, zero), answers(a, zeros[0]), same) {
				t.Fatalf("%v and %v", zero, a)
			}
		}
	}
}
