package weigh_test

import (
	"slices"
	"sync"
	"testing"

	"dendron/api"
	"dendron/ratio"
	"dendron/weigh"
	"dendron/whole"
)

// answers are all numbers that a table answers of some counts.
func answers(w *weigh.Table) []api.Rat {
	var out []api.Rat
	for _, n := range []int{0, 1, 2, 3, 13, 40, 64} {
		fact, _ := w.Fact(n)
		weight, _ := w.Weight(n/2, n)
		pair, _ := w.Pair(n/3, n)
		in, less, _ := w.Need(n/2, n-n/2)
		all, _ := w.All(n)
		out = append(out, api.Rat{Num: fact, Den: api.Nat{1}}, weight, pair, in, less)
		out = append(out, all...)
		clear(all[:cap(all)])
	}
	return out
}

func writeOver(a api.Rat) {
	for _, l := range []api.Nat{a.Num.Abs[:cap(a.Num.Abs)], a.Den[:cap(a.Den)]} {
		for i := range l {
			l[i] = 1<<64 - 1
		}
	}
}

// Rules R3 and R4: what is answered is new memory, so that the same is answered again where it was written over.
func TestAnswersAgain(t *testing.T) {
	w := weigh.New()
	want := ratio.Texts(answers(w))
	for range 3 {
		got := answers(w)
		if !slices.Equal(ratio.Texts(got), want) {
			t.Fatalf("%q, not %q", ratio.Texts(got), want)
		}
		for i, x := range slices.Backward(got) {
			writeOver(x)
			if !slices.Equal(ratio.Texts(got[:i]), want[:i]) {
				t.Fatalf("answers hang together: %q, not %q", ratio.Texts(got[:i]), want[:i])
			}
		}
	}
}

// Promise 14.1: two tables are two: what is done with one, the other does not tell.
func TestTwoTables(t *testing.T) {
	a, b := weigh.New(), weigh.New()
	x, _ := a.Fact(64)
	writeOver(api.Rat{Num: x})
	y, e := b.Fact(64)
	if a == b || e != api.OK || whole.Print(y) != product(64).String() {
		t.Fatal(whole.Print(y), e)
	}
}

// The products are made once, whoever asks first: many that ask at the same time are told the same.
func TestManyAskAtOnce(t *testing.T) {
	for range 20 {
		w, wait := weigh.New(), sync.WaitGroup{}
		got := make([][]string, 8)
		for i := range got {
			wait.Go(func() { got[i] = ratio.Texts(answers(w)) })
		}
		wait.Wait()
		want := ratio.Texts(answers(weigh.New()))
		for _, l := range got {
			if !slices.Equal(l, want) {
				t.Fatalf("%q, not %q", l, want)
			}
		}
	}
}
