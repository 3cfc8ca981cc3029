package target

import (
	"math"
	"math/rand"
	"strings"
	"testing"

	"viewport/api"
	"viewport/fresh"
	"viewport/sample"
	"viewport/splice"
	"viewport/tree"
)

// trees makes trees by chance.
func trees(r *rand.Rand) sample.Trees {
	return sample.Trees{
		Intn: r.Intn,
		Sym:  func() int { return 3 + r.Intn(3) },
		Met: func() uint64 {
			if r.Intn(9) == 0 {
				return 1 << []int{0, 1, 63}[r.Intn(3)]
			}
			return 0
		},
		Gaps: false,
	}
}

func holds(l []api.Part, i int, j api.Dirty) bool {
	return i >= 0 && i < len(l) && l[i].Kind <= api.PartNon && splice.Done(l, i, j)
}

// base goes down by recursion.
func base(l []api.Part, i int, j api.Dirty) int {
	for _, k := range l[i].Kids {
		if holds(l, k, j) {
			return base(l, k, j)
		}
	}
	return i
}

func TestP25_1(t *testing.T) {
	r := rand.New(rand.NewSource(1))
	deep := 0
	for range 3000 {
		l := trees(r).Grow(api.PartRoot, 0, 5)
		from := r.Intn(l[0].To + 2)
		j := api.Dirty{Slot: []int{0, 1, 2, 63, 64, -1}[r.Intn(6)], Span: api.Span{From: from, To: from + r.Intn(3) - r.Intn(2)}, Level: r.Intn(5) - 1}
		for i := -1; i <= len(l); i++ {
			if got := Holds(l, i, j); got != holds(l, i, j) {
				t.Fatalf("%v: %d holds %v: %v", l, i, j, got)
			}
		}
		want := base(l, 0, j)
		if got := Base(l, j); got != want {
			t.Fatalf("%v: the base of %v: %d, not %d", l, j, got, want)
		}
		if want > 1 {
			deep++
		}
		up := r.Intn(5) - 1
		parents := tree.Parents(l)
		for level := j.Level; level > 0 && want > 0; level-- {
			want = parents[want]
		}
		if j.Level >= up {
			want = 0
		}
		got := Target(l, j, up)
		if got != want {
			t.Fatalf("%v: the target of %v, %d: %d, not %d", l, j, up, got, want)
		}
		// P25.2: a target with a higher Level contains it.
		higher := j
		higher.Level++
		if i := Target(l, higher, up); i > got || tree.End(l, i) < tree.End(l, got) {
			t.Fatalf("%v: the target of %v: %d", l, higher, i)
		}
		whole := api.Dirty{Slot: 1, Span: api.Span{From: 0, To: l[0].To}}
		if !Holds(l, 0, whole) {
			t.Fatal("P25.2: the first part does not hold a job whose span is that of the text")
		}
	}
	if deep < 200 {
		t.Error("few bases are below the root:", deep)
	}
}

func TestP25_1Run(t *testing.T) {
	r := rand.New(rand.NewSource(2))
	for range 300 {
		l := trees(r).Grow(api.PartRoot, 0, 4)
		before := tree.Copy(l)
		for i := -1; i <= len(l); i++ {
			wantLeft, wantAt := -2, 0
			var want []api.Part
			switch {
			case i == 0:
				wantLeft, want = -1, l
			case i > 0 && i < len(l) && l[i].Kind == api.PartNon:
				wantLeft, wantAt, want = l[i].Sym-3, l[i].At, tree.Sub(l, i)
			}
			left, at, pool := Run(l, i, 3)
			if left != wantLeft || at != wantAt || !tree.Same(pool, want) {
				t.Fatalf("Run of %d in %v: %d, %d, %v", i, l, left, at, pool)
			}
			for n := range pool {
				pool[n].Sym = 99
				for m := range pool[n].Kids {
					pool[n].Kids[m] = 99
				}
			}
			if !tree.Same(l, before) {
				t.Fatal("the pool shares memory with the tree")
			}
		}
	}
}

func TestP25_1NotValid(t *testing.T) {
	non := []api.Part{{Sym: 1, Kind: api.PartNon, Look: 1, Kids: []int{1}}, {Sym: 1, Kind: api.PartNon, Look: 1}}
	for _, bad := range [][]api.Part{nil, {}, {{}}, non, {{Kind: api.PartTok, Look: 1}}, {{Kind: api.PartRoot, Look: 1, Kids: []int{2}}, {Kind: api.PartNon, Look: 1}}} {
		for i := range 2 {
			left, at, pool := Run(bad, i, 1)
			if Holds(bad, i, api.Dirty{}) || Base(bad, api.Dirty{}) != 0 || Target(bad, api.Dirty{}, 5) != 0 || left != -2 || at != 0 || pool != nil {
				t.Errorf("%v is used", bad)
			}
		}
	}
	l := []api.Part{{Kind: api.PartRoot, Look: 1, Kids: []int{1}}, {Sym: math.MaxInt, Kind: api.PartNon, Look: 1}}
	if left, _, _ := Run(l, 1, math.MinInt); left != math.MaxInt {
		t.Error(left)
	}
	l[1].Sym = 5
	for terms, want := range map[int]int{-3: 8, 0: 5, 3: 2, 9: -4, math.MaxInt: 5 - math.MaxInt} {
		if left, _, _ := Run(l, 1, terms); left != want {
			t.Error(terms, left)
		}
	}
	l[1].Sym = math.MinInt
	if left, _, _ := Run(l, 1, 1); left != math.MinInt {
		t.Error(left)
	}
	if got := Target(l, api.Dirty{Level: math.MaxInt - 1}, math.MaxInt); got != 0 {
		t.Error(got)
	}
	if got := Target(l, api.Dirty{Level: math.MinInt}, 1); got != 1 {
		t.Error(got)
	}
	if got := Target(l, api.Dirty{}, 0); got != 0 {
		t.Error(got)
	}
}

func words(t *testing.T, text string) []api.Part {
	t.Helper()
	l, _ := fresh.Build([]api.Rule{{Name: "word", Regex: "[a-z]+"}, {Name: "gap", Regex: "[ ]+", Trivia: true}}, api.Grammar{Terms: 1, Nons: 1, K: 1, Prods: []api.Prod{{Right: []int{0, 1}}, {}}})
	got, e := l.Fresh(text)
	if e != api.OK {
		t.Fatal(e)
	}
	return got
}

func TestDeepTree(t *testing.T) {
	text := strings.Repeat("a ", 15000)
	l := words(t, text)
	at := len(l) - 3
	l[at].Met = 1
	j := api.Dirty{Span: api.Span{From: l[at].To, To: l[at].To}}
	base := Base(l, j)
	if want := tree.Parents(l)[at]; base != want {
		t.Error(base, want)
	}
	if got := Target(l, j, 5); got != base {
		t.Error(got)
	}
}

func TestExamples(t *testing.T) {
	l := words(t, "a b")
	l[4].Met = 1
	if got := Base(l, api.Dirty{Span: api.Span{From: 2, To: 2}}); got != 3 || l[3].Sym != 1 || l[3].At != 1 {
		t.Error(got)
	}
}
