package walk

import (
	"slices"

	"viewport/api"
)

// work is something that is still to be done for a tree.
type work interface {
	// needs returns how many tokens have to be known before it is done.
	needs(k int) int
	// do does it, and returns its unit, if it is one.
	do(w *Walk) api.Unit
}

// The kinds of work.
type (
	// root begins the root.
	root struct{}
	// rest takes the tokens that are left after the tree of nonterminal 0, and the end.
	rest struct{}
	// non takes the part of a nonterminal from the pool, or begins it. The walk's own one is never taken.
	non struct {
		left int
		own  bool
	}
	// decision predicts how a nonterminal whose part has begun goes on.
	decision struct{ left, part int }
	// term takes a token that a production asks for.
	term struct{ kind int }
	// closing ends a part.
	closing struct{ part int }
)

func (root) needs(int) int       { return 0 }
func (rest) needs(int) int       { return 1 }
func (non) needs(int) int        { return 0 }
func (decision) needs(k int) int { return k }
func (term) needs(int) int       { return 1 }
func (closing) needs(int) int    { return 0 }

func (root) do(w *Walk) api.Unit {
	i := w.begin(api.Part{Sym: api.SymRoot, Kind: api.PartRoot, Look: 1})
	w.push(closing{i}, rest{}, non{left: 0})
	return api.Unit{}
}

func (r rest) do(w *Walk) api.Unit {
	if w.window.at(0).Kind == api.KindEnd {
		return w.leaf(api.PartEnd)
	}
	w.push(r)
	return w.leaf(api.PartSkip)
}

func (n non) do(w *Walk) api.Unit {
	sym := w.from.Grammar.Terms + n.left
	if !n.own {
		if i, ok := w.pool.find(sym, w.at, w.from.Bytes); ok {
			return w.graft(i)
		}
	}
	part := w.begin(api.Part{Sym: sym, Kind: api.PartNon, At: w.at, In: w.at})
	w.push(decision{n.left, part})
	return api.Unit{}
}

func (d decision) do(w *Walk) api.Unit {
	row, ext := w.look()
	part := &w.out[d.part]
	part.Look = max(part.Look, ext)
	if prod := w.from.Predict(d.left, row); prod >= 0 {
		w.push(closing{d.part})
		w.push(w.symbols(prod)...)
		return api.Unit{Cost: 1, Read: ext}
	}
	if next := w.window.at(0); next.Kind == api.KindEnd || w.from.Behind(d.left, next.Kind) {
		if len(part.Kids) == 0 {
			part.Kind = api.PartMissing
		}
		w.push(closing{d.part})
		return api.Unit{Cost: 1, Read: ext}
	}
	w.push(d)
	return w.leaf(api.PartSkip)
}

// symbols returns the works for the right side of a production, the first one last.
func (w *Walk) symbols(prod int) []work {
	var works []work
	g := w.from.Grammar
	for _, s := range slices.Backward(g.Prods[prod].Right) {
		if s < g.Terms {
			works = append(works, term{s})
		} else {
			works = append(works, non{left: s - g.Terms})
		}
	}
	return works
}

func (t term) do(w *Walk) api.Unit {
	next := w.window.at(0)
	if next.Kind == t.kind {
		return w.leaf(api.PartTok)
	}
	w.add(api.Part{Sym: t.kind, Kind: api.PartMissing, At: w.at, In: w.at, To: w.at, Look: next.Ext})
	return api.Unit{Cost: 1, Read: next.Ext}
}

func (c closing) do(w *Walk) api.Unit {
	w.out[c.part].To = w.at
	w.open = w.open[:len(w.open)-1]
	return api.Unit{}
}
