package marks

import (
	"math"
	"math/rand"
	"slices"
	"testing"

	"viewport/api"
	"viewport/fresh"
	"viewport/sample"
	"viewport/tree"
)

// trees makes trees by chance.
func trees(r *rand.Rand) sample.Trees {
	return sample.Trees{
		Intn: r.Intn,
		Sym:  func() int { return 0 },
		Met: func() uint64 {
			if r.Intn(8) == 0 {
				return 1 << r.Intn(3)
			}
			return 0
		},
		Gaps: false,
	}
}

// reach tells the reach of a leaf by going through all others.
func reach(l []api.Part, leaves []int, at, k int) int {
	far := 0
	for _, i := range leaves[:at+1] {
		far = max(far, l[i].Look)
	}
	for _, i := range leaves[at+1:] {
		if l[i].Kind != api.PartMissing && k > 0 {
			far = max(far, l[i].Look)
			k--
		}
	}
	return far
}

func leavesIn(l []api.Part, i int) []int {
	var out []int
	for j := i; j < tree.End(l, i); j++ {
		if l[j].Kind > api.PartNon {
			out = append(out, j)
		}
	}
	return out
}

func TestP19_1(t *testing.T) {
	r := rand.New(rand.NewSource(1))
	for range 1500 {
		l := trees(r).Grow(api.PartRoot, 0, 4)
		k := r.Intn(6) - 1
		first := r.Intn(14) - 1
		got, far := Marks(l, k, first), Reach(l, k)
		stale, leaves := tree.Stale(l), tree.Leaves(l)
		if len(got) != len(l) || len(far) != len(l) {
			t.Fatal(got, far)
		}
		for i, p := range l {
			wantReach := 0
			confirmed := !stale[i]
			if at := slices.Index(leaves, i); at >= 0 {
				wantReach = reach(l, leaves, at, k)
				confirmed = confirmed && (first == -1 || wantReach <= first)
			} else {
				confirmed = confirmed && (first == -1 || p.Look <= first)
				for _, j := range leavesIn(l, i) {
					at := slices.Index(leaves, j)
					confirmed = confirmed && !stale[j] && (first == -1 || reach(l, leaves, at, k) <= first)
				}
			}
			if far[i] != wantReach {
				t.Fatalf("%v, %d: the reach of %d: %d, not %d", l, k, i, far[i], wantReach)
			}
			want := api.MarkLocal
			if stale[i] {
				want = api.MarkStale
			} else if confirmed {
				want = api.MarkConfirmed
			}
			if got[i] != want {
				t.Fatalf("%v, %d, %d: the mark of %d: %d, not %d", l, k, first, i, got[i], want)
			}
		}
		// P19.3: the confirmed leaves come first if those that are stale were met by what is pending from first on.
		later := Marks(l, k, first+1+r.Intn(3))
		all := Marks(l, k, -1)
		for i := range l {
			if first >= 0 && got[i] == api.MarkConfirmed && (later[i] != api.MarkConfirmed || all[i] != api.MarkConfirmed) {
				t.Fatal("P19.3: confirmed, but not with a later byte")
			}
			if (all[i] == api.MarkConfirmed) == stale[i] {
				t.Fatal("P19.3: nothing is pending")
			}
		}
	}
}

func TestP19_1Edges(t *testing.T) {
	for _, bad := range [][]api.Part{nil, {}, {{}}, {{Kind: api.PartRoot, Look: 1, Kids: []int{1}}}} {
		if len(Marks(bad, 1, -1)) != 0 || len(Reach(bad, 1)) != 0 {
			t.Error("a tree that is not valid has marks")
		}
	}
	tok := func(look int) api.Part { return api.Part{Kind: api.PartTok, Look: look} }
	missing := api.Part{Kind: api.PartMissing, Look: 90}
	l := []api.Part{{Kind: api.PartNon, Look: 1, Kids: []int{1, 2, 3, 4, 5}}, tok(3), missing, tok(7), {Kind: api.PartSkip, Look: 5}, {Kind: api.PartEnd, Look: 100}}
	for k, want := range map[int][]int{
		math.MinInt: {0, 3, 90, 90, 90, 100},
		0:           {0, 3, 90, 90, 90, 100},
		1:           {0, 7, 90, 90, 100, 100},
		2:           {0, 7, 90, 100, 100, 100},
		3:           {0, 100, 100, 100, 100, 100},
		math.MaxInt: {0, 100, 100, 100, 100, 100},
	} {
		if got := Reach(l, k); !slices.Equal(got, want) {
			t.Errorf("Reach with %d: %v, not %v", k, got, want)
		}
	}
	// A leaf that is the whole tree, and a nonterminal without leaves.
	if got := Marks([]api.Part{tok(3)}, 1, 3); !slices.Equal(got, []int{api.MarkConfirmed}) {
		t.Error(got)
	}
	if got := Marks([]api.Part{tok(3)}, 1, 2); !slices.Equal(got, []int{api.MarkLocal}) {
		t.Error(got)
	}
	empty := []api.Part{{Kind: api.PartNon, Look: 4}}
	for first, want := range map[int]int{-1: api.MarkConfirmed, 0: api.MarkLocal, 3: api.MarkLocal, 4: api.MarkConfirmed} {
		if got := Marks(empty, 1, first); !slices.Equal(got, []int{want}) {
			t.Error(first, got)
		}
	}
}

func TestP19_2(t *testing.T) {
	if got := Count([]int{1, 2, 3, 3, 0, 4, -1, math.MaxInt, math.MinInt, 2, 3}); got != [4]int{5, 1, 2, 3} {
		t.Error(got)
	}
	if Count(nil) != [4]int{} {
		t.Error("marks where there are none")
	}
	job := func(from, to int) api.Dirty { return api.Dirty{Span: api.Span{From: from, To: to}} }
	for i, x := range []struct {
		l    []api.Dirty
		want int
	}{{nil, -1}, {[]api.Dirty{job(5, 6)}, 5}, {[]api.Dirty{job(5, 6), job(3, 9), job(4, 4)}, 3}, {[]api.Dirty{job(0, 0), job(0, 7)}, 0}, {[]api.Dirty{job(math.MaxInt, 0), job(math.MinInt, 0)}, math.MinInt}} {
		if got := First(x.l); got != x.want {
			t.Errorf("%d: %d, not %d", i, got, x.want)
		}
	}
}

func words(t *testing.T) *fresh.Lang {
	l, e := fresh.Build([]api.Rule{{Name: "word", Regex: "[a-z]+"}, {Name: "gap", Regex: "[ ]+", Trivia: true}}, api.Grammar{Terms: 1, Nons: 1, K: 1, Prods: []api.Prod{{Right: []int{0, 1}}, {}}})
	if e != api.OK {
		t.Fatal(e)
	}
	return l
}

func TestP19_3LeavesInOrder(t *testing.T) {
	r := rand.New(rand.NewSource(2))
	lang := words(t)
	for range 500 {
		text := make([]byte, r.Intn(12))
		for i := range text {
			text[i] = "ab 1"[r.Intn(4)]
		}
		l, _ := lang.Fresh(string(text))
		first := r.Intn(len(text) + 2)
		l = tree.Edit(l, api.Edit{At: first, Ins: 2}, 1)
		got := Marks(l, 1, first)
		confirmed := true
		for _, i := range tree.Leaves(l) {
			if got[i] == api.MarkConfirmed && !confirmed {
				t.Fatalf("%q, %d: a confirmed leaf after one that is not", text, first)
			}
			confirmed = got[i] == api.MarkConfirmed
		}
	}
}

func TestLongTree(t *testing.T) {
	l := []api.Part{{Kind: api.PartRoot, Look: 1}}
	for i := range 200000 {
		l[0].Kids = append(l[0].Kids, i+1)
		l = append(l, api.Part{Kind: api.PartTok, Look: i + 1})
	}
	if got := Reach(l, 150000); got[1] != 150001 || got[60000] != 200000 {
		t.Error(got[1], got[60000])
	}
}

func TestExamples(t *testing.T) {
	l, _ := words(t).Fresh("a b")
	got := Marks(l, 1, 3)
	if got[1] != api.MarkLocal || got[2] != api.MarkLocal || l[2].Kind != api.PartTok {
		t.Error(got)
	}
}
