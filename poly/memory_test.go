package poly_test

import (
	"slices"
	"testing"

	"dendron/api"
	"dendron/poly"
)

// answers are all polynomials that the calls answer of two, those beside an error too; a number is a polynomial of one coefficient here.
func answers(a, b []api.Rat) [][]api.Rat {
	x, y := append(slices.Clone(a), api.Rat{})[0], append(slices.Clone(b), api.Rat{})[0]
	out := [][]api.Rat{
		poly.Clean(a), poly.Add(a, b), poly.Sub(a, b), poly.Scale(a, y), poly.Mul(a, b), poly.Monic(a), poly.Gcd(a, b), poly.Compose(a, b), poly.Derive(a), poly.Area(a),
		{poly.Eval(a, y)}, {poly.Between(a, x, y)},
	}
	take := func(p []api.Rat, _ api.Errno) { out = append(out, p) }
	for _, n := range []int{-1, 0, 1, 2, 3} {
		take(poly.Pow(a, n))
	}
	q, r, e := poly.DivMod(a, b)
	take(q, e)
	take(r, e)
	n := min(len(a), len(b))
	take(poly.Through(a[:n], b[:n]))
	take(poly.Through(a[:min(1, n)], b[:min(1, n)]))
	return append(out, poly.Chain(a)...)
}

func few() [][]api.Rat {
	var out [][]api.Rat
	for _, text := range []string{"", "1", "-5/3", "0 1", "2 0 3", "1 2 1", "-2 0 1", "0 0 0 4/7", "1 4294967296 -1/4294967297"} {
		c := of(text)
		out = append(out, c.list(), oddList(c, 0), append(oddList(c, 1), api.Rat{}))
	}
	return out
}

func clonedList(l []api.Rat) []api.Rat {
	out := slices.Clone(l)
	for i, a := range out {
		out[i] = api.Rat{Num: api.Int{Neg: a.Num.Neg, Abs: slices.Clone(a.Num.Abs)}, Den: slices.Clone(a.Den)}
	}
	return out
}

func writeOver(l []api.Rat) {
	l = l[:cap(l)]
	for i, a := range l {
		for _, limbs := range []api.Nat{a.Num.Abs[:cap(a.Num.Abs)], a.Den[:cap(a.Den)]} {
			for j := range limbs {
				limbs[j] = 1<<64 - 1
			}
		}
		l[i] = api.Rat{Num: api.Int{Neg: true}}
	}
}

func sameAnswers(a, b [][]api.Rat) bool {
	return slices.EqualFunc(a, b, sameList)
}

// Each answer has memory of its own: all of it is written over, and neither an argument nor another answer, nor another number of the same one, may tell.
func TestAnswersHaveTheirOwnMemory(t *testing.T) {
	for _, a := range few() {
		for _, b := range few() {
			c, d := clonedList(a), clonedList(b)
			got, right := answers(c, d), answers(a, b)
			for i, p := range got {
				for j := range p {
					if !same(p[j], right[i][j]) {
						t.Fatalf("answer %d of %v and %v: %v", i, a, b, p)
					}
					writeOver(p[j : j+1 : j+1])
				}
				writeOver(p)
			}
			if !sameList(a, c) || !sameList(b, d) {
				t.Fatalf("arguments %v and %v have turned", a, b)
			}
			if !sameAnswers(answers(c, d), right) {
				t.Fatalf("answers of %v and %v hang on what became of the ones ahead", a, b)
			}
		}
	}
}

// What is appended to an answer is written into no other one.
func TestAnswersHaveNoRoomBehind(t *testing.T) {
	for _, a := range few() {
		for _, b := range few() {
			for i, p := range answers(a, b) {
				if cap(p) != len(p) {
					t.Fatalf("answer %d of %v and %v has room", i, a, b)
				}
			}
		}
	}
}

// One list in two places: it is taken twice, and stays.
func TestOneListTwice(t *testing.T) {
	for _, a := range few() {
		keep := clonedList(a)
		if len(poly.Sub(a, a)) != 0 || !poly.Same(a, a) || !sameAnswers(answers(a, a), answers(a, clonedList(a))) || !sameList(keep, a) {
			t.Fatalf("%v", a)
		}
	}
}

// P1: whatever there is, the calls end without a panic, and take all forms of 0 for the same.
func TestFormsOfZero(t *testing.T) {
	for _, zero := range forms(nil) {
		for _, a := range few() {
			if !slices.EqualFunc(answers(zero, a)[:12], answers(nil, a)[:12], sameList) || !slices.EqualFunc(answers(a, zero)[:12], answers(a, nil)[:12], sameList) {
				t.Fatalf("%v and %v", zero, a)
			}
		}
	}
}
