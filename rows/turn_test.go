package rows_test

import (
	"math"
	"testing"

	"dendron/api"
	"dendron/rows"
)

// samples are entries, each in all its forms under its word.
func samples() map[string][]api.Cell {
	out := map[string][]api.Cell{"?": {{Missing: true}}}
	for _, value := range zeros() {
		out["0"] = append(out["0"], api.Cell{Value: value})
		out["?"] = append(out["?"], api.Cell{Missing: true, Value: value})
	}
	for _, s := range []string{"1", "-1", "1/2", "-1/2", "2", "4294967296", "-1/4294967296", "4294967297/2"} {
		out[s] = []api.Cell{cell(s), {Value: soiled(number(s))}}
		out["?"] = append(out["?"], api.Cell{Missing: true, Value: number(s)})
	}
	return out
}

// Promise 9.3: two entries are one if and only if they have one word.
func TestSame(t *testing.T) {
	for word, forms := range samples() {
		for other, others := range samples() {
			for _, a := range forms {
				for _, b := range others {
					if rows.Same(a, b) != (word == other) {
						t.Fatalf("%v and %v: %v", a, b, rows.Same(a, b))
					}
				}
			}
		}
	}
}

// Promise 9.3: rows of other lengths are not equal, nor are ones with one other entry, in whatever place.
func TestEqual(t *testing.T) {
	if !rows.Equal(nil, nil) || !rows.Equal(nil, []api.Cell{}) || !rows.Equal([]api.Cell{}, nil) {
		t.Fatal("no entries are not equal to none")
	}
	for _, r := range [][]api.Cell{row("0"), row("?"), {{}}, row("1 2")} {
		if rows.Equal(r, nil) || rows.Equal(nil, r) || rows.Equal(r, r[:len(r)-1]) || rows.Equal(r[:len(r)-1], r) {
			t.Fatalf("%v is equal to less", r)
		}
	}
	if rows.Equal(row("1 2"), row("2 1")) || rows.Equal(row("1 ?"), row("1 0")) || !rows.Equal(row("1 ?"), row("2/2 ?")) {
		t.Fatal("order and kinds")
	}
	d := dice(11)
	for range 3000 {
		a := d.anyRow(d.below(6))
		b := tidied(a)
		if !rows.Equal(a, b) || !rows.Equal(b, a) {
			t.Fatalf("%v and %v", a, b)
		}
		for i := range a {
			keep := b[i]
			b[i] = d.anyCell()
			if same := wordBySight(a[i]) == wordBySight(b[i]); rows.Equal(a, b) != same || rows.Equal(b, a) != same {
				t.Fatalf("%v and %v", a, b)
			}
			b[i] = keep
		}
	}
}

// Promise 9.3: there is no place below 0, nor one behind the last.
func TestWithRange(t *testing.T) {
	for n := range 70 {
		l := make([]api.Cell, n, 100)
		for _, i := range []int{-1, -64, math.MinInt, n, n + 1, 99, 100, math.MaxInt} {
			if i >= 0 && i < n {
				continue
			}
			if got, e := rows.With(l, i, cell("1")); len(got) != 0 || e != api.ErrRange {
				t.Fatalf("place %d of %d: %v, %v", i, n, got, e)
			}
		}
	}
	if got, e := rows.With(nil, 0, api.Cell{}); len(got) != 0 || e != api.ErrRange {
		t.Fatal(got, e)
	}
}

// Promise 9.3: the entry stands in its place, all others stay; numbers are answered in their form, missing entries without one.
func TestWith(t *testing.T) {
	d := dice(13)
	for range 1000 {
		l := d.anyRow(1 + d.below(6))
		for i := range l {
			c := d.anyCell()
			got, e := rows.With(l, i, c)
			want := tidied(l)
			want[i] = cell(wordBySight(c))
			if e != api.OK || !sameRow(got, want) {
				t.Fatalf("%v with %v at %d: %v, %v", l, c, i, got, e)
			}
		}
	}
	long := make([]api.Cell, 200)
	for _, i := range []int{0, 63, 64, 65, 199} {
		got, e := rows.With(long, i, cell("?"))
		if e != api.OK || len(got) != 200 {
			t.Fatal(len(got), e)
		}
		for k, c := range got {
			if c.Missing != (k == i) {
				t.Fatalf("place %d has turned, not %d", k, i)
			}
		}
	}
}

// Promise 9.3: rows of two lengths are refused, whatever the set.
func TestMixLength(t *testing.T) {
	for n := range 5 {
		for m := range 5 {
			for _, set := range []uint64{0, 1, math.MaxUint64} {
				got, e := rows.Mix(make([]api.Cell, n, 9), make([]api.Cell, m, 9), set)
				if n != m && (len(got) != 0 || e != api.ErrLength) || n == m && (len(got) != n || e != api.OK) {
					t.Fatalf("%d and %d: %v, %v", n, m, got, e)
				}
			}
		}
	}
	if got, e := rows.Mix(nil, []api.Cell{}, math.MaxUint64); len(got) != 0 || e != api.OK {
		t.Fatal(got, e)
	}
}

// Promise 9.3: each place below 64 by its bit; from 64 on the second row's entries, whatever the set.
func TestMixPlaces(t *testing.T) {
	d := dice(15)
	for _, n := range []int{1, 2, 63, 64, 65, 66, 127, 128, 129, 200} {
		a, b := make([]api.Cell, n), make([]api.Cell, n)
		for i := range n {
			a[i] = api.Cell{Missing: true}
		}
		sets := []uint64{0, math.MaxUint64, 1, 2, 1 << 63, 1<<63 | 1, 0xaaaaaaaaaaaaaaaa}
		for range 20 {
			sets = append(sets, d.next()<<32^d.next())
		}
		for _, set := range sets {
			got, e := rows.Mix(a, b, set)
			if e != api.OK || len(got) != n {
				t.Fatal(len(got), e)
			}
			rest := set
			for i, c := range got {
				if c.Missing != (rest%2 == 1) {
					t.Fatalf("set %x, place %d of %d: %v", set, i, n, c)
				}
				rest /= 2
			}
		}
	}
}

// Promise 9.3: numbers are answered in their form, missing entries without one.
func TestMix(t *testing.T) {
	d := dice(17)
	for range 2000 {
		n := d.below(7)
		a, b := d.anyRow(n), d.anyRow(n)
		set := d.next() << uint(d.below(60))
		got, e := rows.Mix(a, b, set)
		want := tidied(b)
		for i := range n {
			if set&(1<<i) != 0 {
				want[i] = cell(wordBySight(a[i]))
			}
		}
		if e != api.OK || !sameRow(got, want) {
			t.Fatalf("%v and %v by %b: %v, %v", a, b, set, got, e)
		}
	}
}
