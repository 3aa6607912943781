package pathshap

import (
	"slices"

	"dendron/api"
	"dendron/ratio"
)

// Path is the features on a way, and the weights of coalitions of them by how many are in.
//
// What its lists have is never written over: a path that changes gets new ones, so that copies may have the same.
type Path struct {
	parts []api.Part
	line  line // of the parts; 0, if New did not make the path
}

// New is a path on which no feature is.
func New() *Path {
	return &Path{line: empty()}
}

// Len is how many features are on the path.
func (p *Path) Len() int {
	if p == nil {
		return 0
	}
	return len(p.parts)
}

// Copy is another path that has the same.
func (p *Path) Copy() *Path {
	if p == nil {
		return nil
	}
	out := *p
	return &out
}

// Find is the place of a feature, from 1 on; 0: it is not on the path.
func (p *Path) Find(feature int) int {
	if p == nil {
		return 0
	}
	return 1 + slices.IndexFunc(p.parts, func(x api.Part) bool { return x.Feature == feature })
}

// Extend puts a feature on the path.
func (p *Path) Extend(feature int, zero api.Rat, one bool) api.Errno {
	switch {
	case !p.made():
		return api.ErrState
	case feature < 0 || p.Find(feature) > 0:
		return api.ErrArg
	case ratio.Sign(zero) <= 0:
		return api.ErrRange
	}
	part := api.Part{Feature: feature, Share: ratio.Clean(zero), Ok: one}
	p.parts = append(slices.Clip(p.parts), part)
	p.line = p.line.with(part)
	return api.OK
}

// Unwind takes the feature at a place off the path again.
func (p *Path) Unwind(at int) api.Errno {
	line, e := p.without(at)
	if e != api.OK {
		return e
	}
	p.parts = slices.Concat(p.parts[:at-1], p.parts[at:])
	p.line = line
	return api.OK
}

// Sum is the sum of the weights as they would be without the feature at a place.
func (p *Path) Sum(at int) (api.Rat, api.Errno) {
	line, e := p.without(at)
	if e != api.OK {
		return api.Rat{}, e
	}
	return line.sum(), api.OK
}

// Weights are the weights of coalitions, by how many are in.
func (p *Path) Weights() []api.Rat {
	if !p.made() {
		return nil
	}
	return p.line.weights()
}

// Parts are the features on the path, as they were put on it.
func (p *Path) Parts() []api.Part {
	if p == nil {
		return nil
	}
	out := slices.Clone(p.parts)
	for i, x := range out {
		out[i].Share = ratio.Clean(x.Share)
	}
	return out
}

// made tells whether New gave the path, or that of which it is a copy.
func (p *Path) made() bool {
	return p != nil && len(p.line.coefs) > 0
}

// without is the line of all features but that at a place.
func (p *Path) without(at int) (line, api.Errno) {
	switch {
	case !p.made():
		return line{}, api.ErrState
	case at < 1 || at > len(p.parts):
		return line{}, api.ErrRange
	}
	return p.line.without(p.parts[at-1]), api.OK
}

// beyond is another path, that behind a split more: of a feature that is on it already the shares are taken together.
func (p *Path) beyond(feature int, share api.Rat, ok bool) *Path {
	out := p.Copy()
	if at := out.Find(feature); at > 0 {
		old := out.parts[at-1]
		share, ok = ratio.Mul(old.Share, share), old.Ok && ok
		out.Unwind(at)
	}
	out.Extend(feature, share, ok)
	return out
}
