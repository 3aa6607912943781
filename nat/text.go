package nat

import (
	"dendron/api"
)

const (
	chunkDigits = 9
	chunkBase   = 1000000000 // the greatest power of ten in a limb
	blockDigits = 288        // what is written chunk by chunk; 32 chunks
	blockLimbs  = 29         // so many limbs are below 10^288, whatever they hold
)

// Parse is the number that decimal digits are.
func Parse(s string) (api.Nat, api.Errno) {
	if !areDigits(s) {
		return nil, api.ErrForm
	}
	if len(s) > api.MaxDigits {
		return nil, api.ErrDigits
	}
	var out api.Nat
	chunk, base := uint64(0), uint64(1)
	for _, c := range s {
		chunk, base = chunk*10+uint64(c-'0'), base*10
		if base == chunkBase {
			out = timesPlus(out, base, chunk)
			chunk, base = 0, 1
		}
	}
	return timesPlus(out, base, chunk), api.OK
}

func areDigits(s string) bool {
	for _, c := range s {
		if c < '0' || c > '9' {
			return false
		}
	}
	return s != ""
}

// timesPlus is a times a limb and another one on top, in a's own memory where it has room.
func timesPlus(a api.Nat, by, plus uint64) api.Nat {
	for i, x := range a {
		plus += x * by
		a[i] = plus & limbMask
		plus >>= limbBits
	}
	if plus > 0 {
		a = append(a, plus)
	}
	return a
}

// Print is a number's decimal digits, the first not 0.
func Print(a api.Nat) string {
	a = plain(a)
	tens := blockTens(len(a))
	width := blockDigits << len(tens)
	if len(tens) == 0 {
		// A limb is less than 9.64 digits.
		width = (len(a) + len(a)/8 + 1) * chunkDigits
	}
	out := make([]byte, width)
	writeBlocks(out, a, tens)
	at := 0
	for at < len(out)-1 && out[at] == '0' {
		at++
	}
	return string(out[at:])
}

// Digits is how many decimal digits a number has.
func Digits(a api.Nat) int {
	return len(Print(a))
}

// blockTens are 10^288, its square, the square of that and so on: the square of the last is above every number of so many limbs. None, if 10^288 is.
func blockTens(limbs int) []api.Nat {
	if limbs <= blockLimbs {
		return nil
	}
	p := power(Of(10), blockDigits)
	out := []api.Nat{p}
	for 2*len(p)-1 <= limbs {
		p = product(p, p)
		out = append(out, p)
	}
	return out
}

// writeBlocks fills a text with a number's digits, zeros ahead; it is cut in halves as often as there are powers of ten, since long quotients cost less than many short ones.
func writeBlocks(out []byte, a api.Nat, tens []api.Nat) {
	if len(tens) == 0 {
		writeChunks(out, Clean(a))
		return
	}
	last, half := len(tens)-1, len(out)/2
	q, r := divide(a, tens[last])
	writeBlocks(out[:half], q, tens[:last])
	writeBlocks(out[half:], r, tens[:last])
}

// writeChunks is writeBlocks of a short number, which it uses up; the text is as long as some chunks.
func writeChunks(out []byte, a api.Nat) {
	for end := len(out); end > 0; end -= chunkDigits {
		chunk := divideByLimb(a, chunkBase)
		a = cut(a)
		for i := range chunkDigits {
			out[end-1-i] = byte('0' + chunk%10)
			chunk /= 10
		}
	}
}
