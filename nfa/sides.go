package nfa

import "viewport/api"

// sides describes a node of an expression: the states that may come first and last in a match of it, the pairs of those that may follow one another, and whether the empty string matches.
type sides struct {
	first, last, next set
	empty             bool
}

// walk goes through an expression from left to right, and numbers its Class nodes.
type walk struct {
	r      api.Regex
	states int // the last number given
}

// sides returns the sides of a node. Their sets are in no other sides, so that they can be joined in place.
func (w *walk) sides(i int) sides {
	n := w.r[i]
	switch n.Kind {
	case api.NodeClass:
		w.states++
		return sides{first: set{w.states: {}}, last: set{w.states: {}}, next: set{}}
	case api.NodeCat:
		return w.fold(n.Kids, after)
	case api.NodeAlt:
		return w.fold(n.Kids, either)
	case api.NodeStar, api.NodePlus:
		s := w.sides(n.Kids[0])
		s.next = follow(s.next, s.last, s.first)
		s.empty = s.empty || n.Kind == api.NodeStar
		return s
	case api.NodeMaybe:
		s := w.sides(n.Kids[0])
		s.empty = true
		return s
	}
	return sides{first: set{}, last: set{}, next: set{}, empty: true}
}

// fold combines the sides of some nodes from left to right.
func (w *walk) fold(nodes []int, combine func(a, b sides) sides) sides {
	s := w.sides(nodes[0])
	for _, k := range nodes[1:] {
		s = combine(s, w.sides(k))
	}
	return s
}

// after returns the sides of a followed by b.
func after(a, b sides) sides {
	out := sides{first: a.first, last: b.last, next: follow(join(a.next, b.next), a.last, b.first), empty: a.empty && b.empty}
	if a.empty {
		out.first = join(a.first, b.first)
	}
	if b.empty {
		out.last = join(a.last, b.last)
	}
	return out
}

// either returns the sides of what is a or b.
func either(a, b sides) sides {
	return sides{first: join(a.first, b.first), last: join(a.last, b.last), next: join(a.next, b.next), empty: a.empty || b.empty}
}

// follow adds the pairs of each state of last with each of first.
func follow(next, last, first set) set {
	for from := range last {
		for to := range first {
			next[pair(from, to)] = struct{}{}
		}
	}
	return next
}

// join adds the smaller set to the greater one, so that long sequences do not take quadratic time.
func join(a, b set) set {
	if len(a) < len(b) {
		a, b = b, a
	}
	for x := range b {
		a[x] = struct{}{}
	}
	return a
}
