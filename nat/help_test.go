package nat_test

import (
	"math/big"
	"slices"
	"testing"

	"dendron/api"
	"dendron/nat"
)

// dice gives the same limbs on every run, with many that are 0 or full: the edges of carrying lie there.
type dice uint64

func (d *dice) next() uint64 {
	*d = *d*6364136223846793005 + 1442695040888963407
	return uint64(*d) >> 16
}

func (d *dice) number(limbs int) api.Nat {
	out := make(api.Nat, limbs)
	for i := range out {
		switch d.next() % 6 {
		case 0:
		case 1:
			out[i] = 1<<32 - 1
		default:
			out[i] = d.next() & (1<<32 - 1)
		}
	}
	if limbs > 0 && out[limbs-1] == 0 {
		out[limbs-1] = 1 + d.next()%7
	}
	return out
}

// soiled are limbs that may not be, and are the same number: bits above the 32nd, zeros on top.
func soiled(a api.Nat) api.Nat {
	out := make(api.Nat, 0, len(a)+2)
	for i, x := range a {
		out = append(out, x|uint64(i+1)<<32)
	}
	return append(out, 0, 5<<32)
}

func toBig(a api.Nat) *big.Int {
	out := new(big.Int)
	for i := len(a) - 1; i >= 0; i-- {
		out.Lsh(out, 32)
		out.Or(out, new(big.Int).SetUint64(a[i]&(1<<32-1)))
	}
	return out
}

func ofBig(b *big.Int) api.Nat {
	out := make(api.Nat, (b.BitLen()+31)/32)
	bytes := b.Bytes()
	for i, x := range bytes {
		at := len(bytes) - 1 - i
		out[at/4] |= uint64(x) << (at % 4 * 8)
	}
	return out
}

func number(s string) api.Nat {
	b, ok := new(big.Int).SetString(s, 0)
	if !ok {
		panic("no number: " + s)
	}
	return ofBig(b)
}

func twoTo(n uint) api.Nat {
	return ofBig(new(big.Int).Lsh(big.NewInt(1), n))
}

func pick(i uint64) api.Nat {
	return number([]string{
		"0", "1", "2", "3", "7", "10", "0x7fffffff", "0x80000000", "0xffffffff", "0x100000000", "0x100000001",
		"1000000000", "0x7fffffffffffffff", "0x8000000000000000", "0xffffffffffffffff", "0x10000000000000000",
		"0x10000000000000001", "0xffffffffffffffffffffffff", "0x1000000000000000000000000", "100000000000000000000",
		"0x800000000000000000000003", "0x200000000000000000000001", "0x7fffffff800000000000000000000000", "0x800000000000000000000001",
	}[i])
}

const picks = 24

// samples are the edges, and numbers of all lengths up to some that take every inner way.
func samples() []api.Nat {
	var out []api.Nat
	for i := range uint64(picks) {
		out = append(out, pick(i))
	}
	d := dice(1)
	for _, n := range []int{1, 2, 3, 3, 4, 5, 7, 12, 29, 30, 39, 40, 41, 63, 81, 99, 130, 200} {
		out = append(out, d.number(n))
	}
	return out
}

// forms are the limbs in which the tests hand in one number; behind the end of each lies memory that must stay.
func forms(a api.Nat) []api.Nat {
	behind := func(l api.Nat) api.Nat { return append(slices.Clone(l), 77, 88, 99)[:len(l)] }
	return []api.Nat{behind(a), behind(soiled(a))}
}

func memory(a api.Nat) api.Nat {
	return slices.Clone(a[:cap(a)])
}

func wantNumber(t *testing.T, what string, got api.Nat, want *big.Int) {
	t.Helper()
	if !slices.Equal(got, ofBig(want)) {
		t.Fatalf("%s: %x, not %x", what, got, ofBig(want))
	}
}

// eachPair hands each two samples, in all forms, to a test, and looks whether they stay as they are.
func eachPair(t *testing.T, test func(a, b api.Nat, x, y *big.Int)) {
	t.Helper()
	for _, a := range samples() {
		for _, b := range samples() {
			x, y := toBig(a), toBig(b)
			for _, c := range forms(a) {
				for _, d := range forms(b) {
					keepC, keepD := memory(c), memory(d)
					test(c, d, x, y)
					if !slices.Equal(keepC, memory(c)) || !slices.Equal(keepD, memory(d)) {
						t.Fatalf("arguments have changed: %x and %x", a, b)
					}
				}
			}
		}
	}
}

// eachOne is eachPair of one.
func eachOne(t *testing.T, test func(a api.Nat, x *big.Int)) {
	t.Helper()
	for _, a := range samples() {
		for _, c := range forms(a) {
			keep := memory(c)
			test(c, toBig(a))
			if !slices.Equal(keep, memory(c)) {
				t.Fatalf("an argument has changed: %x", a)
			}
		}
	}
}

func must(t *testing.T) func(a api.Nat, e api.Errno) api.Nat {
	return func(a api.Nat, e api.Errno) api.Nat {
		t.Helper()
		if e != api.OK {
			t.Fatal(e)
		}
		return a
	}
}

func wantError(t *testing.T, got api.Nat, e, want api.Errno) {
	t.Helper()
	if e != want || len(got) != 0 {
		t.Fatalf("%v with %x, not %v with nothing", e, got, want)
	}
}

// The helpers stand on this: a test that takes them for granted would tell nothing otherwise.
func TestHelpers(t *testing.T) {
	for _, a := range samples() {
		if !slices.Equal(ofBig(toBig(a)), a) || toBig(soiled(a)).Cmp(toBig(a)) != 0 || nat.Right(soiled(a)) {
			t.Fatalf("%x", a)
		}
	}
}
