// Package walk makes the tree of a nonterminal, or the fresh tree of a text, one unit of work after the other. Layers 17 and 18 are made of it: they differ in whether the units count, and in the pool.
package walk

import (
	"iter"

	"viewport/api"
	"viewport/predict"
)

// Source is what a walk asks of a language and of the text.
type Source struct {
	Grammar api.Grammar
	Bytes   int // the length of the text
	Token   func(at int) api.Token
	Predict func(left int, row string) int
	Behind  func(left, kind int) bool
}

// Walk is a tree that is being made. It can be left after any unit, and goes on from there.
type Walk struct {
	from   Source
	pool   *Pool
	out    []api.Part
	open   []int // the parts that have begun and not ended, each inside the one before
	stack  []work
	window queue[api.Token]
	at     int
}

// New returns a walk for the tree of a nonterminal at a position, or, for -1, for the fresh tree. Parts of the pool are taken as they are; it may be nil.
func New(s Source, left, at int, pool *Pool) *Walk {
	w := &Walk{from: s, pool: pool, at: at}
	if left < 0 {
		w.push(root{})
	} else {
		w.push(non{left: left, own: true})
	}
	return w
}

// Units yields the units that are still to be done, as each of them is done.
func (w *Walk) Units() iter.Seq[api.Unit] {
	return func(yield func(api.Unit) bool) {
		for len(w.stack) > 0 {
			if u := w.step(); u.Cost > 0 && !yield(u) {
				return
			}
		}
	}
}

// Parts yields the parts of the tree. They are complete when no units are left.
func (w *Walk) Parts() iter.Seq[api.Part] {
	return func(yield func(api.Part) bool) {
		for _, p := range w.out {
			if !yield(p) {
				return
			}
		}
	}
}

// step examines a token, or does a work that needs no further token. A unit without cost is none.
func (w *Walk) step() api.Unit {
	next := w.stack[len(w.stack)-1]
	if !w.knows(next.needs(w.from.Grammar.K)) {
		return w.examine()
	}
	w.stack = w.stack[:len(w.stack)-1]
	return next.do(w)
}

// knows reports whether the next tokens have been examined, as many as are needed, or up to the end.
func (w *Walk) knows(tokens int) bool {
	n := w.window.size()
	return n >= tokens || n > 0 && w.window.at(n-1).Kind == api.KindEnd
}

// examine adds the token after those that have been examined.
func (w *Walk) examine() api.Unit {
	at := w.at
	if n := w.window.size(); n > 0 {
		at = w.window.at(n - 1).To
	}
	t := w.from.Token(at)
	w.window.put(t)
	return api.Unit{Cost: t.Ext - t.From, Read: t.Ext}
}

// push adds works, of which the last one is done first.
func (w *Walk) push(l ...work) {
	w.stack = append(w.stack, l...)
}

// add appends a part as a child of the innermost part that is open, and returns its index.
func (w *Walk) add(p api.Part) int {
	i := len(w.out)
	w.out = append(w.out, p)
	if len(w.open) > 0 {
		parent := &w.out[w.open[len(w.open)-1]]
		parent.Kids = append(parent.Kids, i)
	}
	return i
}

// begin appends a part that ends when its closing is done, and returns its index.
func (w *Walk) begin(p api.Part) int {
	i := w.add(p)
	w.open = append(w.open, i)
	return i
}

// leaf adds the next token as a part, and returns the unit of doing so.
func (w *Walk) leaf(kind int) api.Unit {
	t := w.window.at(0)
	w.add(api.Part{Sym: t.Kind, Kind: kind, At: t.From, In: t.At, To: t.To, Look: t.Ext})
	w.at = t.To
	// Nothing comes after the end, which stays the next token.
	if t.Kind != api.KindEnd {
		w.window.take()
	}
	return api.Unit{Cost: 1, Read: t.Ext}
}

// look returns the row of the window, and the greatest Ext in it.
func (w *Walk) look() (row string, ext int) {
	var kinds []int
	for i := range min(w.window.size(), w.from.Grammar.K) {
		t := w.window.at(i)
		kinds = append(kinds, t.Kind)
		ext = max(ext, t.Ext)
	}
	return predict.Row(len(kinds), kinds), ext
}
