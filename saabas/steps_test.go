package saabas_test

import (
	"math/big"
	"slices"
	"testing"

	"dendron/api"
	"dendron/ratio"
	"dendron/saabas"
)

// wantError asks all calls for an error and nothing beside.
func wantError(t *testing.T, m api.Model, r []api.Cell, why api.Errno) {
	t.Helper()
	s, e := saabas.Steps(m, r)
	l, e2 := saabas.Values(m, r)
	o, e3 := saabas.Order(m, r)
	if e != why || e2 != why || e3 != why || len(s) > 0 || len(l) > 0 || len(o) > 0 {
		t.Fatalf("%v of %v: %v %v %v, %v %v %v; not %v", r, m, s, l, o, e, e2, e3, why)
	}
}

func wantSteps(t *testing.T, m api.Model, r []api.Cell, want []step) {
	t.Helper()
	if s, e := saabas.Steps(m, r); e != api.OK || !slices.EqualFunc(s, want, isStep) {
		t.Fatalf("%v of %v: %v, %v; not %v", r, m, s, e, want)
	}
}

func added(tree, node, feature int, add string) step {
	return step{tree, node, feature, toBig(number(add))}
}

// Promise 12.1: the example, to both sides.
func TestStepOfExample(t *testing.T) {
	m := model(1, []api.Node{split(0, "1/2?", 1, 2, "4"), leaf("0", "1"), leaf("1", "3")})
	for line, want := range map[string]string{"1": "1/4", "1/2": "1/4", "0": "-3/4", "?": "-3/4"} {
		wantSteps(t, m, row(line), []step{added(0, 0, 0, want)})
	}
}

// Promise 12.1: tree by tree, from the root on; the tree of a leaf alone has no split, but a place.
func TestSteps(t *testing.T) {
	// The means of the first tree are 13/4 and, below its second split, 4; that of the third is 75.
	for line, want := range map[string][]step{
		"1 1":   {added(0, 0, 0, "3/4"), added(0, 1, 1, "1"), added(2, 0, 1, "-75")},
		"0 1":   {added(0, 0, 0, "-9/4"), added(2, 0, 1, "-75")},
		"1/2 ?": {added(0, 0, 0, "3/4"), added(0, 1, 1, "-2"), added(2, 0, 1, "25")},
		"? 0":   {added(0, 0, 0, "3/4"), added(0, 1, 1, "1"), added(2, 0, 1, "-75")},
		"? -1":  {added(0, 0, 0, "3/4"), added(0, 1, 1, "-2"), added(2, 0, 1, "-75")},
		"-1 5":  {added(0, 0, 0, "-9/4"), added(2, 0, 1, "25")},
	} {
		wantSteps(t, three(), row(line), want)
	}
}

// Promise 12.1: a feature that is asked again below has a step each time; a split that changes nothing has one too, of 0 in its form.
func TestStepsOfFeatureAskedAgain(t *testing.T) {
	tree := []api.Node{split(0, "0", 1, 2, "6"), split(0, "-5?", 3, 4, "2"), split(0, "5", 5, 6, "4"), leaf("1", "1/2"), leaf("10", "3/2"), leaf("7", "1"), leaf("7", "3")}
	for line, want := range map[string][]step{
		"-6": {added(0, 0, 0, "1/2"), added(0, 1, 0, "-27/4")},
		"-5": {added(0, 0, 0, "1/2"), added(0, 1, 0, "9/4")},
		"0":  {added(0, 0, 0, "-1/4"), added(0, 2, 0, "0")},
		"?":  {added(0, 0, 0, "-1/4"), added(0, 2, 0, "0")},
	} {
		wantSteps(t, model(1, tree), row(line), want)
	}
}

// Promise 12.1: no trees, and trees without splits, of each number of features.
func TestNoSteps(t *testing.T) {
	for features := range 65 {
		r := make([]api.Cell, features)
		wantSteps(t, api.Model{Features: features}, r, nil)
		wantSteps(t, model(features, []api.Node{leaf("7", "2")}, []api.Node{leaf("-1", "1/3")}), r, nil)
	}
}

// Promise 12.1: what may not be is told ahead of the length.
func TestStepsRefused(t *testing.T) {
	for _, m := range wrongModels() {
		for n := range 4 {
			wantError(t, m, make([]api.Cell, n), api.ErrArg)
		}
		wantError(t, m, make([]api.Cell, 64), api.ErrArg)
		wantError(t, m, make([]api.Cell, 65), api.ErrArg)
	}
	for n := range 70 {
		if n != 2 {
			wantError(t, three(), make([]api.Cell, n), api.ErrLength)
		}
	}
	wantError(t, three(), nil, api.ErrLength)
	wantError(t, api.Model{}, row("?"), api.ErrLength)
	wantError(t, api.Model{Features: 64}, make([]api.Cell, 65), api.ErrLength)
}

// Promise 12.1: models and rows by chance.
func TestStepsByChance(t *testing.T) {
	d := dice(3)
	for range 4000 {
		m := d.anyModel(4, 7)
		r := d.anyRow(m.Features)
		wantSteps(t, m, r, stepsBySight(m, r))
	}
}

// Promise 12.1: the longest ways, of as many trees as there can be.
func TestMostSteps(t *testing.T) {
	for _, left := range []bool{false, true} {
		m := api.Model{Features: 64, Trees: slices.Repeat([][]api.Node{chain(127, 64, left)}, 64)}
		var want []step
		for i := range 64 {
			for k := range 127 {
				// Below the split of place k there are 128 - k leaves of one cover: one has 5, the others 1.
				want = append(want, step{i, 2 * k, k % 64, new(big.Rat).Sub(big.NewRat(4, int64(127-k)), big.NewRat(4, int64(128-k)))})
			}
		}
		wantSteps(t, m, make([]api.Cell, 64), want)
	}
}

// Rule R1: nothing that a row's number may be stops a call.
func TestStepsOfAnyNumbers(t *testing.T) {
	m := model(1, []api.Node{split(0, "0", 1, 2, "2"), leaf("-1", "1"), leaf("1", "1")})
	for _, x := range zeros() {
		wantSteps(t, m, []api.Cell{{Value: x}}, []step{added(0, 0, 0, "1")})
	}
	for _, x := range []api.Rat{number("-1/9"), soiled(number("-1/9")), soiled(ratio.Of(-7))} {
		wantSteps(t, m, []api.Cell{{Value: x}}, []step{added(0, 0, 0, "-1")})
	}
}
