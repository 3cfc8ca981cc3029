package walk

import (
	"cmp"
	"slices"

	"viewport/api"
	"viewport/parts"
	"viewport/tree"
)

// Pool is an earlier tree, parts of which can be taken.
type Pool struct {
	parts []api.Part
	stale []bool
}

// NewPool returns the pool of a valid tree, nil if there is no tree.
func NewPool(l []api.Part) *Pool {
	if len(l) == 0 {
		return nil
	}
	return &Pool{parts: l, stale: tree.Stale(l)}
}

// find returns the part for a symbol at a position that can be taken in a text of some bytes. It is the one that tree.Find finds, but looked for among the parts at that position alone: in a valid tree parts come in the order of their At.
func (p *Pool) find(sym, at, bytes int) (int, bool) {
	if p == nil {
		return 0, false
	}
	i, _ := slices.BinarySearchFunc(p.parts, at, func(q api.Part, at int) int { return cmp.Compare(q.At, at) })
	for ; i < len(p.parts) && p.parts[i].At == at; i++ {
		q := p.parts[i]
		if q.Sym == sym && parts.Inner(q) {
			return i, q.Kind == api.PartNon && q.To > at && q.To <= bytes && !p.stale[i]
		}
	}
	return 0, false
}

// graft takes part i of the pool with everything inside it.
func (w *Walk) graft(i int) api.Unit {
	old := w.pool.parts
	taken := parts.Shifted(old[i:parts.End(old, i)], len(w.out)-i)
	w.add(taken[0])
	w.out = append(w.out, taken[1:]...)
	w.at = taken[0].To
	look := 0
	for _, p := range taken {
		look = max(look, p.Look)
	}
	for w.window.size() > 0 && w.window.at(0).From < w.at {
		w.window.take()
	}
	return api.Unit{Cost: 1, Read: look}
}

// queue is a row of things, of which the first ones are taken first.
type queue[T any] struct {
	items []T
}

func (q *queue[T]) size() int  { return len(q.items) }
func (q *queue[T]) at(i int) T { return q.items[i] }
func (q *queue[T]) put(x T)    { q.items = append(q.items, x) }
func (q *queue[T]) take()      { q.items = q.items[1:] }
