package tree

import (
	"math"
	"slices"

	"viewport/api"
	"viewport/shift"
)

// farthest is the greatest distance by which a tree is moved.
const farthest = 1 << 40

// Bare returns the tree with every Met set to 0.
func Bare(l []api.Part) []api.Part {
	if Check(l) != api.OK {
		return nil
	}
	out := Copy(l)
	for i := range out {
		out[i].Met = 0
	}
	return out
}

// Move returns the tree with its positions increased by a number of bytes, nothing if they cannot be.
func Move(l []api.Part, by int) []api.Part {
	if Check(l) != api.OK || by < -farthest || by > farthest {
		return nil
	}
	out := Copy(l)
	for i := range out {
		p := &out[i]
		if by > math.MaxInt-max(p.To, p.Look) {
			return nil
		}
		p.At, p.In, p.To, p.Look = p.At+by, p.In+by, p.To+by, p.Look+by
	}
	if Check(out) != api.OK {
		return nil
	}
	return out
}

// Edit returns the tree after an edit, with a bit added to what the edit meets.
func Edit(l []api.Part, e api.Edit, bit uint64) []api.Part {
	if e.At < 0 || e.Del < 0 || e.Ins < 0 || Check(l) != api.OK {
		return nil
	}
	out := Copy(l)
	// Backward, because a part reaches at least as far as its children.
	for i, p := range slices.Backward(l) {
		out[i] = edited(out[i], e, bit)
		for _, k := range p.Kids {
			out[i].To = max(out[i].To, out[k].To)
		}
	}
	return out
}

// edited returns a part after an edit, without regard to its children.
func edited(p api.Part, e api.Edit, bit uint64) api.Part {
	root := p.Kind == api.PartRoot
	q := p
	q.At, q.To = shift.Start(p.At, e), shift.End(p.To, e)
	if root {
		q.At, q.To = 0, shift.Len(e, p.To)
	}
	q.To = max(q.To, q.At)
	q.In = q.At
	if p.In != p.At {
		q.In = min(max(shift.Start(p.In, e), q.At), q.To)
	}
	q.Look = max(shift.End(p.Look, e), q.At+1)
	if shift.Meets(own(p), e) {
		q.Met |= bit
		q.Look = max(q.Look, e.At+1)
	}
	if root {
		q.Look = 1
	}
	return q
}

// own returns the own span of a part.
func own(p api.Part) api.Span {
	if p.Kind == api.PartRoot {
		return api.Span{From: -1, To: p.Look}
	}
	return api.Span{From: p.At, To: p.Look}
}

// Stale returns for each part whether it, or a part inside it, has been met.
func Stale(l []api.Part) []bool {
	if Check(l) != api.OK {
		return nil
	}
	out := make([]bool, len(l))
	for i, p := range slices.Backward(l) {
		out[i] = p.Met != 0 || slices.ContainsFunc(p.Kids, func(k int) bool { return out[k] })
	}
	return out
}
