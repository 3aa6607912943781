package nat_test

import (
	"slices"
	"testing"

	"dendron/api"
	"dendron/nat"
)

// answers are all numbers that the calls answer of three numbers, those with an error left out.
func answers(a, b, c api.Nat) []api.Nat {
	out := []api.Nat{nat.Clean(a), nat.Add(a, b), nat.Mul(a, b), nat.Gcd(a, b), nat.Lcm(a, b), nat.Sqrt(a)}
	take := func(x api.Nat, e api.Errno) {
		if e == api.OK {
			out = append(out, x)
		}
	}
	take(nat.Sub(a, b))
	q, r, e := nat.DivMod(a, b)
	take(q, e)
	take(r, e)
	for _, n := range []int{0, 1, 32} {
		take(nat.Shl(a, n))
		take(nat.Shr(a, n))
		take(nat.Pow(a, n))
	}
	take(nat.PowMod(a, b, c))
	return append(out, nat.Of(5), nat.Of(1<<40))
}

// Each answer has limbs of its own: all of its memory is written over, and neither an argument nor another answer may tell.
func TestAnswersHaveTheirOwnLimbs(t *testing.T) {
	edges := []api.Nat{nil, {1}, {7}, {0, 1}, {5, 6}, {0, 0, 1}, {1, 2, 3}, {1<<32 | 1, 0}, {1, 2, 3, 4, 5}}
	for _, a := range edges {
		for _, b := range edges {
			a, b, c := slices.Clone(a), slices.Clone(b), api.Nat{9, 9, 9, 9}
			keep := []api.Nat{slices.Clone(a), slices.Clone(b), slices.Clone(c)}
			got := answers(a, b, c)
			want := answers(keep[0], keep[1], keep[2])
			for i, x := range got {
				if !nat.Right(x) || !slices.Equal(x, want[i]) {
					t.Fatalf("answer %d of %x and %x: %x", i, a, b, x)
				}
				x = x[:cap(x)]
				for j := range x {
					x[j] = 1<<64 - 1
				}
			}
			if !slices.Equal(a, keep[0]) || !slices.Equal(b, keep[1]) || !slices.Equal(c, keep[2]) {
				t.Fatalf("arguments %x and %x have turned", keep[0], keep[1])
			}
		}
	}
}

// P1: whatever limbs there are, the calls end without a panic, and take nil, nothing and zeros for the same.
func TestFormsOfZero(t *testing.T) {
	for _, zero := range []api.Nat{nil, {}, {0}, {0, 0, 0}, {1 << 32}, {0, 1 << 63, 0}} {
		for _, a := range []api.Nat{nil, {1}, {1<<64 - 1, 1<<64 - 1, 1<<64 - 1}, {0, 0, 7}} {
			for i, list := range [][2][]api.Nat{
				{answers(zero, a, a), answers(nil, a, a)},
				{answers(a, zero, a), answers(a, nil, a)},
				{answers(a, a, zero), answers(a, a, nil)},
				{answers(zero, zero, zero), answers(nil, nil, nil)},
			} {
				if !slices.EqualFunc(list[0], list[1], func(x, y api.Nat) bool { return slices.Equal(x, y) }) {
					t.Fatalf("case %d: %x and %x", i, zero, a)
				}
			}
		}
		if nat.Print(zero) != "0" || nat.Digits(zero) != 1 || nat.Len(zero) != 0 || nat.Bit(zero, 40) != 0 {
			t.Fatalf("%x", zero)
		}
	}
}

// The greatest shift and the greatest power again, as numbers to go on with.
func TestGreatNumbers(t *testing.T) {
	a := must(t)(nat.Shl(nat.Of(3), api.MaxShift))
	if nat.Len(a) != api.MaxShift+2 || nat.Bit(a, api.MaxShift) != 1 || nat.Bit(a, api.MaxShift-1) != 0 {
		t.Fatal("Shl")
	}
	same(t, must(t)(nat.Shr(a, api.MaxShift)), nat.Of(3))
	same(t, nat.Sqrt(must(t)(nat.Shl(nat.Of(1), api.MaxShift))), must(t)(nat.Shl(nat.Of(1), api.MaxShift/2)))
	p := must(t)(nat.Pow(nat.Of(2), api.MaxPower))
	same(t, p, must(t)(nat.Shl(nat.Of(1), api.MaxPower)))
	q, r, e := nat.DivMod(a, p)
	if e != api.OK || len(r) != 0 {
		t.Fatal(e)
	}
	same(t, q, must(t)(nat.Shl(nat.Of(3), api.MaxShift-api.MaxPower)))
	same(t, nat.Gcd(a, p), p)
}
