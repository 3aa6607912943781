package poly_test

import (
	"math/big"
	"slices"
	"strings"
	"testing"

	"dendron/api"
	"dendron/poly"
	"dendron/ratio"
)

// dice gives the same numbers on every run.
type dice uint64

func (d *dice) next() uint64 {
	*d = *d*6364136223846793005 + 1442695040888963407
	return uint64(*d) >> 16
}

func (d *dice) below(n int) int {
	return int(d.next() % uint64(n))
}

func (d *dice) number(most int) *big.Rat {
	return big.NewRat(int64(d.below(2*most+1)-most), int64(1+d.below(most)))
}

// curve is a polynomial as the tests reckon with it: its coefficients, the last not 0.
type curve []*big.Rat

// curve is one of a degree, with many coefficients 0.
func (d *dice) curve(degree, most int) curve {
	var out curve
	for range degree + 1 {
		if d.below(3) == 0 {
			out = append(out, new(big.Rat))
		} else {
			out = append(out, d.number(most))
		}
	}
	for degree >= 0 && out[degree].Sign() == 0 {
		out[degree] = d.number(most)
	}
	return out
}

func number(s string) *big.Rat {
	out, ok := new(big.Rat).SetString(s)
	if !ok {
		panic("no number: " + s)
	}
	return out
}

// of is a curve by its coefficients' texts, the lowest power's first.
func of(text string) curve {
	var out curve
	for _, s := range strings.Fields(text) {
		out = append(out, number(s))
	}
	return out.cut()
}

func (c curve) cut() curve {
	for len(c) > 0 && c[len(c)-1].Sign() == 0 {
		c = c[:len(c)-1]
	}
	return c
}

func (c curve) at(i int) *big.Rat {
	if i >= len(c) {
		return new(big.Rat)
	}
	return c[i]
}

func (c curve) plus(d curve) curve {
	var out curve
	for i := range max(len(c), len(d)) {
		out = append(out, new(big.Rat).Add(c.at(i), d.at(i)))
	}
	return out.cut()
}

func (c curve) scaled(by *big.Rat) curve {
	var out curve
	for _, x := range c {
		out = append(out, new(big.Rat).Mul(x, by))
	}
	return out.cut()
}

func (c curve) minus(d curve) curve {
	return c.plus(d.scaled(big.NewRat(-1, 1)))
}

// shifted is a curve times a power of x.
func (c curve) shifted(by int) curve {
	var out curve
	for range by {
		out = append(out, new(big.Rat))
	}
	return append(out, c...).cut()
}

func (c curve) times(d curve) curve {
	var out curve
	for i, x := range d {
		out = out.plus(c.scaled(x).shifted(i))
	}
	return out
}

func (c curve) top() *big.Rat {
	return c[len(c)-1]
}

// over is the quotient and the rest of a divisor that is not 0.
func (c curve) over(d curve) (curve, curve) {
	var quotient curve
	for len(c) >= len(d) {
		part := curve{new(big.Rat).Quo(c.top(), d.top())}.shifted(len(c) - len(d))
		quotient = quotient.plus(part)
		c = c.minus(part.times(d))
	}
	return quotient, c
}

// value is p at x, power by power.
func (c curve) value(x *big.Rat) *big.Rat {
	out, power := new(big.Rat), big.NewRat(1, 1)
	for _, y := range c {
		out.Add(out, new(big.Rat).Mul(y, power))
		power = new(big.Rat).Mul(power, x)
	}
	return out
}

func (c curve) slope() curve {
	var out curve
	for i := 1; i < len(c); i++ {
		out = append(out, new(big.Rat).Mul(c[i], big.NewRat(int64(i), 1)))
	}
	return out
}

func (c curve) String() string {
	out := make([]string, len(c))
	for i, x := range c {
		out[i] = x.RatString()
	}
	return "[" + strings.Join(out, " ") + "]"
}

func samples() []curve {
	out := []curve{nil, of("1"), of("-1"), of("5/3"), of("0 1"), of("0 -1/2"), of("1 1"), of("1 -1"), of("-1 0 1"), of("1 2 1"), of("-2 0 1"), of("0 0 0 4"), of("1/2 -1/3 0 1/4"),
		of("18446744073709551616 -1/18446744073709551616"), of("4294967296/3 0 4294967295")}
	d := dice(1)
	for _, degree := range []int{1, 2, 3, 4, 5, 7} {
		out = append(out, d.curve(degree, 9))
	}
	return append(out, d.curve(3, 1<<40))
}

func numbers() []*big.Rat {
	var out []*big.Rat
	for _, s := range strings.Fields("0 1 -1 2 -1/2 3/7 -22/7 18446744073709551616/3 -1/4294967296") {
		out = append(out, number(s))
	}
	return out
}

func limbs(x *big.Int) api.Nat {
	out := make(api.Nat, (x.BitLen()+31)/32)
	bytes := x.Bytes()
	for i, b := range bytes {
		at := len(bytes) - 1 - i
		out[at/4] |= uint64(b) << (at % 4 * 8)
	}
	return out
}

func ofBig(x *big.Rat) api.Rat {
	return api.Rat{Num: api.Int{Neg: x.Sign() < 0, Abs: limbs(x.Num())}, Den: limbs(x.Denom())}
}

func (c curve) list() []api.Rat {
	var out []api.Rat
	for _, x := range c {
		out = append(out, ofBig(x))
	}
	return out
}

// soiled are limbs that may not be, of the same number: bits above the 32nd, zeros on top.
func soiled(a api.Nat) api.Nat {
	var out api.Nat
	for i, l := range a {
		out = append(out, l|uint64(i+1)<<32)
	}
	return append(out, 0, 5<<32)
}

// room are limbs with memory behind their end that must stay.
func room(l api.Nat) api.Nat {
	return append(slices.Clone(l), 77, 88, 99)[:len(l)]
}

// odd is a number in a form that may not be: the parts have a divisor, bits above the 32nd, zeros on top; 0 has a Den 0, or none, or a sign.
func odd(x *big.Rat, kind int) api.Rat {
	if x.Sign() == 0 {
		return []api.Rat{{}, {Num: api.Int{Neg: true, Abs: room(api.Nat{7})}, Den: api.Nat{1 << 32, 0}}, {Num: api.Int{Neg: true}, Den: room(api.Nat{6})}}[kind%3]
	}
	by := big.NewInt(6 << 40)
	num, den := limbs(new(big.Int).Mul(x.Num(), by)), limbs(new(big.Int).Mul(x.Denom(), by))
	if kind%2 == 0 {
		num, den = soiled(num), soiled(den)
	}
	return api.Rat{Num: api.Int{Neg: x.Sign() < 0, Abs: room(num)}, Den: room(den)}
}

// forms are what the tests hand in as one polynomial: as it may be; with coefficients that may not be; with zeros from above; with both. Behind the end of the lists lie coefficients that must stay.
func forms(c curve) [][]api.Rat {
	behind := func(l []api.Rat) []api.Rat {
		return append(slices.Clone(l), ratio.Of(7), ratio.Frac(-8, 9))[:len(l)]
	}
	var odds []api.Rat
	for i, x := range c {
		odds = append(odds, odd(x, i))
	}
	out := [][]api.Rat{behind(c.list()), behind(odds), behind(append(c.list(), ratio.Zero())), behind(append(slices.Clone(odds), api.Rat{}, odd(new(big.Rat), 1), odd(new(big.Rat), 2)))}
	if len(c) == 0 {
		out = append(out, nil, make([]api.Rat, 5))
	}
	return out
}

func numberForms(x *big.Rat) []api.Rat {
	return []api.Rat{ofBig(x), odd(x, 0), odd(x, 1), odd(x, 2)}
}

// memory is all that lies in a list, behind its end and behind its numbers' ends too.
func memory(l []api.Rat) []api.Rat {
	var out []api.Rat
	for _, a := range l[:cap(l)] {
		out = append(out, api.Rat{Num: api.Int{Neg: a.Num.Neg, Abs: slices.Clone(a.Num.Abs[:cap(a.Num.Abs)])}, Den: slices.Clone(a.Den[:cap(a.Den)])})
	}
	return out
}

// stays looks, when the test is done, whether arguments are as they were.
func stays(t *testing.T, test func(), lists ...[]api.Rat) {
	t.Helper()
	var keep [][]api.Rat
	for _, l := range lists {
		keep = append(keep, memory(l))
	}
	test()
	for i, l := range lists {
		if !sameList(keep[i], memory(l)) {
			t.Fatalf("argument %d has changed: %v", i, l)
		}
	}
}

// eachOne hands all samples, in all forms, to a test, and looks whether they stay as they are.
func eachOne(t *testing.T, test func(p []api.Rat, c curve)) {
	t.Helper()
	for _, c := range samples() {
		for _, p := range forms(c) {
			stays(t, func() { test(p, c) }, p)
		}
	}
}

func eachPair(t *testing.T, test func(a, b []api.Rat, c, d curve)) {
	t.Helper()
	eachOne(t, func(a []api.Rat, c curve) {
		eachOne(t, func(b []api.Rat, d curve) { test(a, b, c, d) })
	})
}

func eachNumber(t *testing.T, test func(a api.Rat, x *big.Rat)) {
	t.Helper()
	for _, x := range numbers() {
		for _, a := range numberForms(x) {
			stays(t, func() { test(a, x) }, []api.Rat{a})
		}
	}
}

// same tells whether a number is just as it has to be: its sign, its limbs, none more.
func same(a, b api.Rat) bool {
	return a.Num.Neg == b.Num.Neg && slices.Equal(a.Num.Abs, b.Num.Abs) && slices.Equal(a.Den, b.Den)
}

func sameList(a, b []api.Rat) bool {
	return slices.EqualFunc(a, b, same)
}

// want asks for just these coefficients, each as it may be, the last not 0, and no room behind them.
func want(t *testing.T, what string, got []api.Rat, c curve) {
	t.Helper()
	if !sameList(got, c.list()) {
		t.Fatalf("%s: %v, not %v", what, ratio.Texts(got), c)
	}
	if cap(got) != len(got) {
		t.Fatalf("%s: room behind %v", what, ratio.Texts(got))
	}
}

func wantNumber(t *testing.T, what string, got api.Rat, x *big.Rat) {
	t.Helper()
	if !same(got, ofBig(x)) {
		t.Fatalf("%s: %v, not %s", what, got, x.RatString())
	}
}

func must(t *testing.T) func(p []api.Rat, e api.Errno) []api.Rat {
	return func(p []api.Rat, e api.Errno) []api.Rat {
		t.Helper()
		if e != api.OK {
			t.Fatal(e)
		}
		return p
	}
}

func wantError(t *testing.T, got []api.Rat, e, want api.Errno) {
	t.Helper()
	if e != want || len(got) != 0 {
		t.Fatalf("%v with %v, not %v with nothing", e, got, want)
	}
}

// The helpers stand on this: a test that takes them for granted would tell nothing otherwise.
func TestHelpers(t *testing.T) {
	for _, c := range samples() {
		for i, p := range forms(c) {
			for j, x := range p {
				if got := ratio.Clean(x); !same(got, ofBig(c.at(j))) || len(c) > 0 && i%2 != 0 && ratio.Right(x) {
					t.Fatalf("%v: %v", c, p)
				}
			}
			if len(p) < len(c) {
				t.Fatalf("%v: %v", c, p)
			}
		}
		for _, d := range samples() {
			if len(d) == 0 {
				continue
			}
			if q, r := c.over(d); len(r) >= len(d) || len(q.times(d).plus(r).minus(c)) != 0 {
				t.Fatalf("%v over %v: %v, %v", c, d, q, r)
			}
		}
	}
	if got := of("1 -1").times(of("1 1")).String(); got != "[1 0 -1]" {
		t.Fatal(got)
	}
	if len(poly.Clean(nil)) != 0 {
		t.Fatal("0 has coefficients")
	}
}
