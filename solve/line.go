package solve

import (
	"dendron/api"
	"dendron/ratio"
)

// line is a row of a table: a number times whole numbers, all of which nothing above 1 divides. So what divides them is looked for once a row, not with each number, and they grow no longer than they must.
type line struct {
	numbers []api.Rat
	by      api.Rat
}

// take takes so many times the whole numbers of another row from the row.
func (l *line) take(from []api.Rat, times api.Rat) {
	num, den := ratio.Int(times.Num), denOf(times)
	for i, x := range l.numbers {
		if ratio.Sign(x) != 0 || ratio.Sign(from[i]) != 0 {
			l.numbers[i] = ratio.Sub(ratio.Mul(x, den), ratio.Mul(from[i], num))
		}
	}
	l.by, _ = ratio.Div(l.by, den)
	l.shorten()
}

// shorten brings a row into its form, whatever its numbers are; a row of 0 stays.
func (l *line) shorten() {
	unit := measure(l.numbers)
	if ratio.Sign(unit) == 0 {
		return
	}
	for i, x := range l.numbers {
		if ratio.Sign(x) != 0 {
			l.numbers[i], _ = ratio.Div(x, unit)
		}
	}
	l.by = ratio.Mul(l.by, unit)
}

// measure is the greatest number of which all are whole multiples; 0, if all are 0.
func measure(l []api.Rat) api.Rat {
	out := ratio.Zero()
	for _, x := range l {
		switch {
		case ratio.Sign(x) == 0:
		case ratio.Sign(out) == 0:
			out = ratio.Abs(x)
		default:
			times, _ := ratio.Div(x, out)
			out, _ = ratio.Div(out, denOf(times))
		}
	}
	return out
}

// denOf is what a number in its form is divided by.
func denOf(a api.Rat) api.Rat {
	return ratio.Int(api.Int{Abs: a.Den})
}
