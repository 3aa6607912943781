package ratio

import (
	"dendron/api"
	"dendron/nat"
	"dendron/whole"
)

// Cmp tells how two numbers stand: -1, 0, 1.
func Cmp(a, b api.Rat) int {
	n, d := parts(a)
	m, e := parts(b)
	return whole.Cmp(times(n, e), times(m, d))
}

// Same tells whether two numbers are one.
func Same(a, b api.Rat) bool {
	return Cmp(a, b) == 0
}

// Sign is -1, 0 or 1.
func Sign(a api.Rat) int {
	n, _ := parts(a)
	return whole.Sign(n)
}

// Min is the lesser of two numbers.
func Min(a, b api.Rat) api.Rat {
	if Cmp(a, b) > 0 {
		return Clean(b)
	}
	return Clean(a)
}

// Max is the greater of two numbers.
func Max(a, b api.Rat) api.Rat {
	if Cmp(a, b) < 0 {
		return Clean(b)
	}
	return Clean(a)
}

// Floor is the greatest whole number that is not above a number.
func Floor(a api.Rat) api.Int {
	q, _ := divide(parts(a))
	return q
}

// Ceil is the least whole number that is not below a number.
func Ceil(a api.Rat) api.Int {
	q, r := divide(parts(a))
	if nat.Zero(r) {
		return q
	}
	return next(q)
}

// Round is the whole number that is nearest; of two the even one.
func Round(a api.Rat) api.Int {
	n, d := parts(a)
	q, r := divide(n, d)
	half := nat.Cmp(nat.Add(r, r), d)
	if half < 0 || half == 0 && nat.Even(q.Abs) {
		return q
	}
	return next(q)
}

func next(a api.Int) api.Int {
	return whole.Add(a, whole.Of(1))
}
