// Package parts answers small questions about the parts of trees, for all layers that go through trees.
package parts

import (
	"slices"

	"viewport/api"
)

// Inner reports whether a part is one that may have children.
func Inner(p api.Part) bool {
	return p.Kind == api.PartRoot || p.Kind == api.PartNon
}

// Fits reports whether one part can stand where another one does.
func Fits(a, b api.Part) bool {
	return a.Sym == b.Sym && a.Kind == b.Kind && a.At == b.At && a.To == b.To
}

// Same reports whether two lists of parts are equal in everything.
func Same(a, b []api.Part) bool {
	return slices.EqualFunc(a, b, func(p, q api.Part) bool {
		return Fits(p, q) && p.In == q.In && p.Look == q.Look && p.Met == q.Met && slices.Equal(p.Kids, q.Kids)
	})
}

// Shifted returns a copy of parts in which the indexes of their children are increased by a number.
func Shifted(l []api.Part, by int) []api.Part {
	out := make([]api.Part, len(l))
	for i, p := range l {
		p.Kids = slices.Clone(p.Kids)
		for n := range p.Kids {
			p.Kids[n] += by
		}
		out[i] = p
	}
	return out
}

// End returns the index after everything that is inside part i of a valid tree.
func End(l []api.Part, i int) int {
	for len(l[i].Kids) > 0 {
		i = l[i].Kids[len(l[i].Kids)-1]
	}
	return i + 1
}
