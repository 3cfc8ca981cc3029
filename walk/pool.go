package walk

import (
	"cmp"
	"slices"

	"viewport/api"
	"viewport/tree"
)

// Pool is an earlier tree, parts of which can be taken.
type Pool struct {
	parts []api.Part
	stale []bool
}

// NewPool returns the pool of a valid tree, nil if there is no tree.
func NewPool(l []api.Part) *Pool {
	if len(l) == 0 {
		return nil
	}
	return &Pool{parts: l, stale: tree.Stale(l)}
}

// find returns the part for a symbol at a position that can be taken in a text of some bytes. It is the one that tree.Find finds, but looked for among the parts at that position alone: in a valid tree parts come in the order of their At.
func (p *Pool) find(sym, at, bytes int) (int, bool) {
	if p == nil {
		return 0, false
	}
	i, _ := slices.BinarySearchFunc(p.parts, at, func(q api.Part, at int) int { return cmp.Compare(q.At, at) })
	for ; i < len(p.parts) && p.parts[i].At == at; i++ {
		q := p.parts[i]
		if q.Sym == sym && (q.Kind == api.PartNon || q.Kind == api.PartRoot) {
			return i, q.Kind == api.PartNon && q.To > at && q.To <= bytes && !p.stale[i]
		}
	}
	return 0, false
}

// graft takes part i of the pool with everything inside it.
func (w *Walk) graft(i int) api.Unit {
	p := w.pool
	by, look := len(w.out)-i, 0
	for j := i; j < last(p.parts, i); j++ {
		q := p.parts[j]
		look = max(look, q.Look)
		q.Kids = slices.Clone(q.Kids)
		for n := range q.Kids {
			q.Kids[n] += by
		}
		if j == i {
			w.add(q)
		} else {
			w.out = append(w.out, q)
		}
	}
	w.at = p.parts[i].To
	for w.window.size() > 0 && w.window.at(0).From < w.at {
		w.window.take()
	}
	return api.Unit{Cost: 1, Read: look}
}

// last returns the index after everything inside part i.
func last(l []api.Part, i int) int {
	for len(l[i].Kids) > 0 {
		i = l[i].Kids[len(l[i].Kids)-1]
	}
	return i + 1
}

// queue is a row of things, of which the first ones are taken first.
type queue[T any] struct {
	items []T
}

func (q *queue[T]) size() int  { return len(q.items) }
func (q *queue[T]) at(i int) T { return q.items[i] }
func (q *queue[T]) put(x T)    { q.items = append(q.items, x) }
func (q *queue[T]) take()      { q.items = q.items[1:] }
