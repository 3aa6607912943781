package linear_test

import (
	"math"
	"math/big"
	"slices"
	"testing"

	"dendron/api"
	"dendron/linear"
	"dendron/ratio"
)

// both are the two that tell one and the same.
func both(t *testing.T, each func(name string, f func([]api.Rat, int) (api.Rat, api.Errno))) {
	t.Helper()
	each("Weigh", linear.Weigh)
	each("ByArea", linear.ByArea)
}

// weighedBySight is the chapter's sum.
func weighedBySight(p []api.Rat, n int) *big.Rat {
	out := new(big.Rat)
	for k, x := range p {
		if k < n {
			out.Add(out, new(big.Rat).Mul(toBig(x), counts(k, n-k-1, n)))
		}
	}
	return out
}

func wantWeighed(t *testing.T, p []api.Rat, n int) {
	t.Helper()
	both(t, func(name string, f func([]api.Rat, int) (api.Rat, api.Errno)) {
		if x, e := f(p, n); e != api.OK || !isBig(x, weighedBySight(p, n)) {
			t.Fatalf("%s of %q for %d: %v, %v; not %v", name, ratio.Texts(p), n, x, e, weighedBySight(p, n))
		}
	})
}

func wantNotWeighed(t *testing.T, p []api.Rat, n int, why api.Errno) {
	t.Helper()
	both(t, func(name string, f func([]api.Rat, int) (api.Rat, api.Errno)) {
		if x, e := f(p, n); e != why || !empty(x) {
			t.Fatalf("%s of %q for %d: %v, %v; not %v", name, ratio.Texts(p), n, x, e, why)
		}
	})
}

// Promise 16.2: the example, and others told by hand.
func TestWeigh(t *testing.T) {
	for _, c := range []struct {
		p    []string
		n    int
		want string
	}{
		{[]string{"1", "1"}, 2, "1"}, {[]string{"1"}, 1, "1"}, {[]string{"-5/3"}, 1, "-5/3"}, {nil, 1, "0"}, {nil, 64, "0"},
		{[]string{"2", "3"}, 3, "7/6"}, {[]string{"0", "0", "1"}, 3, "1/3"}, {[]string{"0", "1"}, 3, "1/6"}, {[]string{"1", "-2", "1"}, 3, "1/3"},
		{[]string{"6", "0", "-12"}, 4, "1/2"}, {[]string{"1"}, 64, "1/64"}, {[]string{"1", "2", "1"}, 3, "1"},
	} {
		var p []api.Rat
		for _, s := range c.p {
			p = append(p, number(s))
		}
		wantWeighed(t, p, c.n)
		both(t, func(name string, f func([]api.Rat, int) (api.Rat, api.Errno)) {
			if x, e := f(p, c.n); e != api.OK || ratio.Print(x) != c.want {
				t.Fatalf("%s of %q for %d: %s, %v", name, c.p, c.n, ratio.Print(x), e)
			}
		})
	}
}

// Promises 16.2, 16.4: each power alone, of few and of the most.
func TestWeighEachPower(t *testing.T) {
	for _, n := range []int{1, 2, 3, 4, 5, 9, 16, 33, 63, 64} {
		for k := range n {
			if n > 40 && k%7 > 0 && k < n-2 {
				continue
			}
			p := append(slices.Repeat([]api.Rat{ratio.Zero()}, k), number("-7/3"))
			wantWeighed(t, p, n)
		}
	}
}

// Promises 16.2, 16.4: polynomials by chance, of numbers that may not be, for all that they can be weighed for.
func TestWeighByChance(t *testing.T) {
	d := dice(7)
	for n := 1; n <= 64; n++ {
		for range 3 {
			var p []api.Rat
			for range pickOf(&d, n, n, d.below(n+1)) {
				p = append(p, d.anyNumber())
			}
			wantWeighed(t, p, n)
		}
	}
}

// Promise 16.2: coefficients of hundreds of digits, of other Dens each.
func TestWeighLong(t *testing.T) {
	var p []api.Rat
	for k := range 64 {
		x, _ := ratio.Pow(ratio.Frac(2*k+3, k+101), 50)
		p = append(p, x)
	}
	wantWeighed(t, p, 64)
}

// Promise 16.2: n is not 1 to 64; told ahead of the length.
func TestWeighRange(t *testing.T) {
	for _, n := range []int{0, -1, -2, 65, 66, 128, math.MaxInt, math.MinInt} {
		for _, length := range []int{0, 1, 2, 64, 65, 66, 200} {
			wantNotWeighed(t, slices.Repeat([]api.Rat{ratio.One()}, length), n, api.ErrRange)
			wantNotWeighed(t, make([]api.Rat, length), n, api.ErrRange)
		}
	}
}

// Promise 16.2: more coefficients than n; those 0 from above are none.
func TestWeighLength(t *testing.T) {
	d := dice(9)
	for n := 1; n <= 64; n++ {
		p := slices.Repeat([]api.Rat{ratio.Zero()}, n)
		wantWeighed(t, p, n)
		for range 3 {
			p = append(p, pickOf(&d, zeros()...))
			wantWeighed(t, p, n)
		}
		for _, length := range []int{n + 1, n + 2, n + 50} {
			p := slices.Repeat([]api.Rat{ratio.One()}, length)
			wantNotWeighed(t, p, n, api.ErrLong)
			clear(p[:length-1])
			wantNotWeighed(t, p, n, api.ErrLong)
			wantNotWeighed(t, append(p, zeros()...), n, api.ErrLong)
		}
	}
}

// What lies behind a list's end is no coefficient.
func TestWeighBehind(t *testing.T) {
	p := slices.Repeat([]api.Rat{ratio.Of(3)}, 10)
	wantWeighed(t, p[:4], 4)
	wantWeighed(t, p[:4], 7)
	wantWeighed(t, p[:0], 1)
}
