package verdict

import (
	"viewport/api"
	"viewport/tree"
)

// leaf is what two leaves have in common that count as the same one.
type leaf struct {
	bytes      string
	path       int // the number of its path
	kind       int
	at, in, to int
}

// step is a path that goes on from another one with a symbol.
type step struct {
	path, sym int
}

// names numbers paths, so that those of deep trees need not be written out to be compared.
type names map[step]int

// after returns the number of the path that goes on from a path with a symbol.
func (n names) after(path, sym int) int {
	s := step{path, sym}
	if _, known := n[s]; !known {
		n[s] = len(n) + 1
	}
	return n[s]
}

// leavesOf returns the leaves of a tree of a text in order.
func leavesOf(l []api.Part, text string, n names) []leaf {
	paths := make([]int, len(l))
	for i, up := range tree.Parents(l) {
		above := 0
		if up >= 0 {
			above = paths[up]
		}
		paths[i] = n.after(above, l[i].Sym)
	}
	var out []leaf
	for _, i := range tree.Leaves(l) {
		p := l[i]
		out = append(out, leaf{bytes: text[p.At:p.To], path: paths[i], kind: p.Kind, at: p.At, in: p.In, to: p.To})
	}
	return out
}
