package reuse

import (
	"math/rand"
	"slices"
	"testing"

	"viewport/api"
	"viewport/fresh"
	"viewport/sample"
	"viewport/tree"
)

// trees makes trees by chance.
func trees(r *rand.Rand) sample.Trees {
	return sample.Trees{
		Intn: r.Intn,
		Sym:  func() int { return r.Intn(3) },
		Met: func() uint64 {
			if r.Intn(7) == 0 {
				return 1 << r.Intn(64)
			}
			return 0
		},
		Gaps: false,
	}
}

// clean tells by recursion whether nothing has met a part or what is inside it.
func clean(l []api.Part, i int) bool {
	return l[i].Met == 0 && !slices.ContainsFunc(l[i].Kids, func(k int) bool { return !clean(l, k) })
}

// outermost tells by recursion which parts can be reused, from a part on.
func outermost(l []api.Part, i int) []int {
	if l[i].Kind == api.PartNon && clean(l, i) {
		return []int{i}
	}
	var out []int
	for _, k := range l[i].Kids {
		out = append(out, outermost(l, k)...)
	}
	return out
}

func TestP21_1(t *testing.T) {
	r := rand.New(rand.NewSource(1))
	for range 1500 {
		l := trees(r).Grow(api.PartRoot+r.Intn(2), 0, 4)
		before := tree.Copy(l)
		want := outermost(l, 0)
		if got := All(l); !slices.Equal(got, want) {
			t.Fatalf("All of %v: %v, not %v", l, got, want)
		}
		bytes, look := 0, 0
		for n, i := range want {
			bytes += l[i].To - l[i].At
			if n > 0 && i < tree.End(l, want[n-1]) || tree.Stale(l)[i] {
				t.Fatal("P21.2: a part inside another one, or a stale one")
			}
		}
		for _, p := range l {
			look = max(look, p.Look)
		}
		if Bytes(l) != bytes || Look(l) != look {
			t.Fatalf("%v: %d bytes, Look %d, not %d, %d", l, Bytes(l), Look(l), bytes, look)
		}
		for range 5 {
			sym, at := r.Intn(4), r.Intn(5)
			i := slices.IndexFunc(l, func(p api.Part) bool { return p.Kind <= api.PartNon && p.Sym == sym && p.At == at })
			got, ok := Take(l, sym, at)
			if i < 0 || l[i].Kind != api.PartNon || !clean(l, i) {
				if ok || got != nil {
					t.Fatalf("Take %d, %d of %v: %v", sym, at, l, got)
				}
			} else if !ok || !tree.Same(got, tree.Sub(l, i)) {
				t.Fatalf("Take %d, %d of %v: %v, %v", sym, at, l, got, ok)
			}
			for j := range got {
				got[j].Kids = append(got[j].Kids[:0], 99)
			}
		}
		if !tree.Same(l, before) {
			t.Fatal("an argument has changed")
		}
	}
}

func TestP21_1NotValid(t *testing.T) {
	for _, bad := range [][]api.Part{nil, {}, {{}}, {{Kind: api.PartNon, Look: 1, Kids: []int{1}}}} {
		if got, ok := Take(bad, 0, 0); got != nil || ok || len(All(bad)) != 0 || Bytes(bad) != 0 || Look(bad) != 0 {
			t.Errorf("%v is used", bad)
		}
	}
}

func TestExamples(t *testing.T) {
	l, _ := fresh.Build([]api.Rule{{Name: "word", Regex: "[a-z]+"}, {Name: "gap", Regex: "[ ]+", Trivia: true}}, api.Grammar{Terms: 1, Nons: 1, K: 1, Prods: []api.Prod{{Right: []int{0, 1}}, {}}})
	pool, _ := l.Fresh("a b")
	if got := All(pool); !slices.Equal(got, []int{1}) || Bytes(pool) != 3 || Look(pool) != 4 {
		t.Error(got, Bytes(pool), Look(pool))
	}
	pool[2].Met = 1
	if got := All(pool); !slices.Equal(got, []int{3}) || Bytes(pool) != 2 {
		t.Error(got)
	}
	if got, ok := Take(pool, 1, 0); ok || got != nil {
		t.Error(got)
	}
	if got, ok := Take(pool, 1, 1); !ok || len(got) != 3 {
		t.Error(got)
	}
}
