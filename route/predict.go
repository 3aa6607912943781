package route

import (
	"dendron/api"
	"dendron/ratio"
	"dendron/valid"
)

// Fits tells why a row can't be asked of a model; OK: it can.
func Fits(m api.Model, row []api.Cell) api.Errno {
	if !valid.Ok(m) {
		return api.ErrArg
	}
	return length(m, row)
}

// length is Fits of a model that may be: to look through all its nodes again for each of many rows would take too long.
func length(m api.Model, row []api.Cell) api.Errno {
	if len(row) != m.Features {
		return api.ErrLength
	}
	return api.OK
}

// Predict is the sum of the values of the leaves to which a row goes.
func Predict(m api.Model, row []api.Cell) (api.Rat, api.Errno) {
	if e := Fits(m, row); e != api.OK {
		return api.Rat{}, e
	}
	return ratio.Sum(values(m, row)), api.OK
}

// Each is the values of the leaves to which a row goes, tree by tree.
func Each(m api.Model, row []api.Cell) ([]api.Rat, api.Errno) {
	if e := Fits(m, row); e != api.OK {
		return nil, e
	}
	return values(m, row), api.OK
}

// Mean is the mean of what a model predicts of rows.
func Mean(m api.Model, l [][]api.Cell) (api.Rat, api.Errno) {
	if !valid.Ok(m) {
		return api.Rat{}, api.ErrArg
	}
	for _, row := range l {
		if e := length(m, row); e != api.OK {
			return api.Rat{}, e
		}
	}
	said := make([]api.Rat, len(l))
	for i, row := range l {
		said[i] = ratio.Sum(values(m, row))
	}
	return ratio.Mean(said)
}

// values are what the trees say of a row that fits them, in memory of their own.
func values(m api.Model, row []api.Cell) []api.Rat {
	out := make([]api.Rat, len(m.Trees))
	for i, t := range m.Trees {
		at := 0
		for !t[at].Leaf {
			at = child(t[at], row)
		}
		out[i] = ratio.Clean(t[at].Value)
	}
	return out
}
