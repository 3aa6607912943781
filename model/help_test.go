package model_test

import (
	"fmt"
	"math/big"
	"slices"
	"strconv"
	"strings"
	"testing"

	"dendron/api"
	"dendron/lex"
	"dendron/model"
	"dendron/ratio"
)

// dice gives the same numbers on every run.
type dice uint64

func (d *dice) next() uint64 {
	*d = *d*6364136223846793005 + 1442695040888963407
	return uint64(*d) >> 16
}

func (d *dice) below(n int) int {
	return int(d.next() % uint64(n))
}

func pickOf[T any](d *dice, l ...T) T {
	return l[d.below(len(l))]
}

func number(s string) api.Rat {
	out, e := ratio.Parse(s)
	if e != api.OK {
		panic("no number: " + s)
	}
	return out
}

// soiled is the same number as it may not be: with a divisor in both parts, bits above the 32nd, zeros on top, and memory behind the end.
func soiled(a api.Rat) api.Rat {
	limbs := func(l api.Nat) api.Nat {
		var out api.Nat
		carry := uint64(0)
		for i, x := range l {
			carry += x * 6
			out = append(out, carry&(1<<32-1)|uint64(i+1)<<32)
			carry >>= 32
		}
		return append(out, carry, 5<<32, 77, 88)[:len(out)+2]
	}
	return api.Rat{Num: api.Int{Neg: a.Num.Neg || len(a.Num.Abs) == 0, Abs: limbs(a.Num.Abs)}, Den: limbs(a.Den)}
}

// anyNumber is one of all sizes, some of them in a form that may not be.
func (d *dice) anyNumber() api.Rat {
	a := number(pickOf(d, "0", "1", "-1", "2", "1/2", "-1/2", "22/7", "-0.125", "4294967296", "1/4294967296", "-18446744073709551616/3", "123456789012345678901234567890", strconv.Itoa(d.below(100))))
	switch d.below(5) {
	case 0:
		return soiled(a)
	case 1:
		return pickOf(d, api.Rat{}, api.Rat{Num: api.Int{Neg: true, Abs: api.Nat{5}}}, api.Rat{Den: api.Nat{1 << 32}}, a)
	}
	return a
}

// anyNode is one that fits, with fields that its kind has not.
func (d *dice) anyNode() api.Node {
	return api.Node{
		Leaf: d.below(2) == 0, Feature: pickOf(d, 0, 1, 64, d.below(65)), Cut: d.anyNumber(),
		Left: pickOf(d, 0, 255, d.below(256)), Right: pickOf(d, 0, 255, d.below(256)),
		Miss: d.below(2) == 0, Value: d.anyNumber(), Cover: d.anyNumber(),
	}
}

func (d *dice) anyModel(trees, nodes int) api.Model {
	m := api.Model{Features: pickOf(d, 0, 1, 64, d.below(65))}
	for range d.below(trees + 1) {
		var t []api.Node
		for range 1 + d.below(nodes) {
			t = append(t, d.anyNode())
		}
		m.Trees = append(m.Trees, t)
	}
	return m
}

// leaves are so many nodes, of one leaf each time.
func leaves(n int) []api.Node {
	return slices.Repeat([]api.Node{{Leaf: true, Value: ratio.Zero(), Cover: ratio.One()}}, n)
}

// sameNumber asks for the same limbs, not for the same number alone.
func sameNumber(a, b api.Rat) bool {
	return a.Num.Neg == b.Num.Neg && slices.Equal(a.Num.Abs, b.Num.Abs) && slices.Equal(a.Den, b.Den)
}

func sameNode(a, b api.Node) bool {
	return a.Leaf == b.Leaf && a.Feature == b.Feature && sameNumber(a.Cut, b.Cut) && a.Left == b.Left && a.Right == b.Right && a.Miss == b.Miss && sameNumber(a.Value, b.Value) && sameNumber(a.Cover, b.Cover)
}

func sameModel(a, b api.Model) bool {
	return a.Features == b.Features && slices.EqualFunc(a.Trees, b.Trees, func(s, t []api.Node) bool { return slices.EqualFunc(s, t, sameNode) })
}

func short(s string) string {
	if len(s) > 300 {
		return s[:300] + ".."
	}
	return s
}

func wantFault(t *testing.T, s string, why api.Errno, at int) {
	t.Helper()
	m, f := model.Read(s)
	if f != (api.Fault{Err: why, At: at}) || !sameModel(m, api.Model{}) {
		t.Fatalf("%q: %v and %v, not %v at %d", short(s), f, m, why, at)
	}
}

func wantRead(t *testing.T, s string, want api.Model) {
	t.Helper()
	m, f := model.Read(s)
	if f != (api.Fault{}) || !sameModel(m, want) {
		t.Fatalf("%q: %v and %v, not %v", short(s), f, m, want)
	}
}

func mustWrite(t *testing.T, m api.Model) string {
	t.Helper()
	s, e := model.Write(m)
	if e != api.OK {
		t.Fatalf("%v of %v", e, m)
	}
	return s
}

func toBig(a api.Rat) string {
	part := func(l api.Nat) *big.Int {
		out := new(big.Int)
		for _, x := range slices.Backward(l) {
			out.Lsh(out, 32)
			out.Or(out, big.NewInt(int64(x&(1<<32-1))))
		}
		return out
	}
	num, den := part(a.Num.Abs), part(a.Den)
	if den.Sign() == 0 {
		return "0"
	}
	if a.Num.Neg {
		num.Neg(num)
	}
	return new(big.Rat).SetFrac(num, den).RatString()
}

// writtenBySight is a model's text, by means that the program has not.
func writtenBySight(m api.Model) string {
	out := fmt.Sprintf("dendron 1\nfeatures %d\ntrees %d\n", m.Features, len(m.Trees))
	for _, t := range m.Trees {
		out += fmt.Sprintf("tree %d\n", len(t))
		for _, n := range t {
			side := map[bool]string{true: "miss-left", false: "miss-right"}[n.Miss]
			if n.Leaf {
				out += fmt.Sprintf("leaf %s %s\n", toBig(n.Value), toBig(n.Cover))
			} else {
				out += fmt.Sprintf("split %d %s %d %d %s %s\n", n.Feature, toBig(n.Cut), n.Left, n.Right, side, toBig(n.Cover))
			}
		}
	}
	return out + "end\n"
}

// sight holds the lines of a text against what each must be.
type sight struct {
	text  string
	lines [][]api.Token
	count int // of the line that was read last
	out   strings.Builder
	fault api.Fault
}

// line reads one, of words (one of several, parted by bars), counts (# least most) and numbers (?).
func (k *sight) line(slots ...string) {
	var words []api.Token
	end := len(k.text)
	if len(k.lines) > 0 {
		words, k.lines = k.lines[0], k.lines[1:]
		if ends := strings.IndexByte(k.text[words[0].At:], '\n'); ends >= 0 {
			end = words[0].At + ends
		}
	}
	k.count = 0
	for i, slot := range slots {
		if i == len(words) {
			k.stop(api.ErrEnd, end)
			return
		}
		text, e := k.word(slot, words[i].Text)
		if e != api.OK {
			k.stop(e, words[i].At)
			return
		}
		k.out.WriteString(map[bool]string{true: " ", false: "\n"}[i > 0] + text)
	}
	if len(words) > len(slots) {
		k.stop(api.ErrMore, words[len(slots)].At)
	}
}

func (k *sight) word(slot, word string) (string, api.Errno) {
	switch {
	case slot == "?":
		a, e := ratio.Parse(word)
		return toBig(a), e
	case slot[0] == '#':
		var least, most int
		fmt.Sscanf(slot, "# %d %d", &least, &most)
		n, ok := new(big.Int).SetString(word, 10)
		if !ok || n.String() != word || n.Sign() < 0 {
			return "", api.ErrForm
		}
		if n.Cmp(big.NewInt(int64(least))) < 0 || n.Cmp(big.NewInt(int64(most))) > 0 {
			return "", api.ErrLimit
		}
		k.count = int(n.Int64())
		return word, api.OK
	case !slices.Contains(strings.Split(slot, "|"), word):
		return "", api.ErrWord
	}
	return word, api.OK
}

func (k *sight) stop(e api.Errno, at int) {
	if k.fault.Err == api.OK {
		k.fault = api.Fault{Err: e, At: at}
	}
}

func (k *sight) node() {
	switch first := append(slices.Concat(k.lines...), api.Token{})[0].Text; first {
	case "leaf":
		k.line("leaf", "?", "?")
	case "split":
		k.line("split", "# 0 64", "?", "# 0 255", "# 0 255", "miss-left|miss-right", "?")
	default:
		k.line("leaf|split")
	}
}

// readBySight is the text that a model, once read, has; or the fault.
func readBySight(s string) (string, api.Fault) {
	lines, at, e := lex.Lines(s)
	if e != api.OK {
		return "", api.Fault{Err: e, At: at}
	}
	k := &sight{text: s, lines: lines}
	k.line("dendron", "1")
	k.line("features", "# 0 64")
	k.line("trees", "# 0 64")
	for range k.count {
		if k.fault.Err == api.OK {
			k.line("tree", "# 1 255")
		}
		for range k.count {
			if k.fault.Err == api.OK {
				k.node()
			}
		}
	}
	k.line("end")
	if len(k.lines) > 0 {
		k.stop(api.ErrMore, k.lines[0][0].At)
	}
	if k.fault.Err != api.OK {
		return "", k.fault
	}
	return k.out.String()[1:] + "\n", k.fault
}
