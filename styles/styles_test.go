package styles

import (
	"math"
	"math/rand"
	"slices"
	"testing"

	"viewport/api"
	"viewport/tree"
)

func style(kind, number, prio int, path ...int) api.Style {
	return api.Style{Kind: kind, Style: number, Prio: prio, Path: path}
}

// grammar has terminals 0 and 1, and nonterminals 2 and 3.
func grammar() api.Grammar {
	return api.Grammar{Terms: 2, Nons: 2, K: 1, Prods: []api.Prod{{Right: []int{0, 3}}, {Left: 1, Right: []int{1}}}}
}

func TestP26_1Check(t *testing.T) {
	g := grammar()
	ok := style(0, 1, 0, 2)
	many := slices.Repeat([]api.Style{ok}, api.MaxStyles)
	bad := style(9, 0, 0)
	for i, x := range []struct {
		l    []api.Style
		g    api.Grammar
		want api.Errno
	}{
		{nil, g, api.OK},
		{many, g, api.OK},
		{append(slices.Clip(many), ok), g, api.ErrLong},
		{append(slices.Clip(many), bad), g, api.ErrLong},
		{append(slices.Clip(many), bad), api.Grammar{}, api.ErrArg},
		{[]api.Style{bad}, api.Grammar{Terms: 9}, api.ErrLong},
		{[]api.Style{ok, style(0, 0, 0)}, g, api.ErrArg},
		{[]api.Style{style(0, -1, 0)}, g, api.ErrArg},
		{[]api.Style{style(0, math.MaxInt, 0)}, g, api.OK},
		{[]api.Style{style(0, 1, 1000)}, g, api.OK},
		{[]api.Style{style(0, 1, -1000)}, g, api.OK},
		{[]api.Style{style(0, 1, 1001)}, g, api.ErrArg},
		{[]api.Style{style(0, 1, -1001)}, g, api.ErrArg},
		{[]api.Style{style(-1, 1, 0)}, g, api.OK},
		{[]api.Style{style(-2, 1, 0)}, g, api.ErrArg},
		{[]api.Style{style(1, 1, 0)}, g, api.OK},
		{[]api.Style{style(2, 1, 0)}, g, api.ErrArg},
		{[]api.Style{style(0, 1, 0, 2, 3, 3, 2, 2, 2, 2, 2)}, g, api.OK},
		{[]api.Style{style(0, 1, 0, 2, 3, 3, 2, 2, 2, 2, 2, 2)}, g, api.ErrArg},
		{[]api.Style{style(0, 1, 0, api.SymRoot, 2)}, g, api.OK},
		{[]api.Style{style(0, 1, 0, 2, api.SymRoot)}, g, api.OK},
		{[]api.Style{style(0, 1, 0, 1)}, g, api.ErrArg},
		{[]api.Style{style(0, 1, 0, 4)}, g, api.ErrArg},
		{[]api.Style{style(0, 1, 0, -1)}, g, api.ErrArg},
		{[]api.Style{style(0, 1, 0, -2)}, g, api.ErrArg},
		{[]api.Style{style(0, 1, 0, -4)}, g, api.ErrArg},
		{[]api.Style{style(0, 1, 0, 2, math.MaxInt)}, g, api.ErrArg},
	} {
		if got := Check(x.l, x.g); got != x.want {
			t.Errorf("%d: %d, not %d", i, got, x.want)
		}
	}
}

func TestP26_1Matches(t *testing.T) {
	for i, x := range []struct {
		s    api.Style
		kind int
		way  []int
		want bool
	}{
		{style(0, 1, 0), 0, nil, true},
		{style(0, 1, 0), 1, nil, false},
		{style(0, 1, 0), 0, []int{5, 6}, true},
		{style(0, 1, 0, 6), 0, []int{5, 6}, true},
		{style(0, 1, 0, 5), 0, []int{5, 6}, false},
		{style(0, 1, 0, 5, 6), 0, []int{5, 6}, true},
		{style(0, 1, 0, 6, 5), 0, []int{5, 6}, false},
		{style(0, 1, 0, 4, 5, 6), 0, []int{5, 6}, false},
		{style(0, 1, 0, 6), 0, nil, false},
		{style(0, 1, 0, 6), 1, []int{5, 6}, false},
		{style(-77, -3, 5000, -9), -77, []int{-9}, true},
	} {
		if got := Matches(x.s, x.kind, x.way); got != x.want {
			t.Errorf("%d: %v", i, got)
		}
	}
}

func TestP26_1Style(t *testing.T) {
	r := rand.New(rand.NewSource(1))
	path := func() []int {
		l := make([]int, r.Intn(4))
		for i := range l {
			l[i] = r.Intn(2)
		}
		return l
	}
	for range 2000 {
		var l []api.Style
		for range r.Intn(7) {
			l = append(l, style(r.Intn(2), r.Intn(9)-2, r.Intn(4)-2, path()...))
		}
		kind, way := r.Intn(2), path()
		var matching []api.Style
		for _, s := range l {
			if s.Kind == kind && len(s.Path) <= len(way) && slices.Equal(s.Path, way[len(way)-len(s.Path):]) {
				matching = append(matching, s)
			}
		}
		slices.SortStableFunc(matching, func(a, b api.Style) int { return b.Prio - a.Prio })
		want := 0
		if len(matching) > 0 {
			want = matching[0].Style
		}
		got := Style(l, kind, way)
		if got != want {
			t.Fatalf("Style of %v, %d, %v: %d, not %d", l, kind, way, got, want)
		}
		// P26.3: styles for other kinds change nothing, nor does a later one that matches the same with no greater Prio.
		more := append(slices.Clip(l), style(7, 70, 1000, path()...))
		if len(matching) > 0 {
			more = append(more, style(kind, 71, matching[0].Prio-r.Intn(2), matching[0].Path...))
		}
		if Style(more, kind, way) != got {
			t.Fatalf("P26.3: %v, %d, %v", more, kind, way)
		}
	}
	if Style(nil, 0, nil) != 0 || Style([]api.Style{style(0, 5, math.MinInt)}, 0, nil) != 5 || Style([]api.Style{style(0, 5, math.MinInt), style(0, 6, math.MaxInt)}, 0, nil) != 6 {
		t.Error("Style")
	}
}

func TestP26_2(t *testing.T) {
	l := []api.Part{
		{Sym: api.SymRoot, Kind: api.PartRoot, To: 4, Look: 1, Kids: []int{1, 6, 7}},
		{Sym: 2, Kind: api.PartNon, To: 2, Look: 3, Kids: []int{2, 3, 5}},
		{Sym: 0, Kind: api.PartTok, To: 1, Look: 2},
		{Sym: 3, Kind: api.PartNon, At: 1, In: 1, To: 2, Look: 3, Kids: []int{4}},
		{Sym: 0, Kind: api.PartTok, At: 1, In: 1, To: 2, Look: 3},
		{Sym: 0, Kind: api.PartMissing, At: 2, In: 2, To: 2, Look: 3},
		{Sym: -1, Kind: api.PartSkip, At: 2, In: 2, To: 3, Look: 4},
		{Sym: -2, Kind: api.PartEnd, At: 3, In: 4, To: 4, Look: 5},
	}
	s := []api.Style{style(0, 1, 0), style(0, 2, 1, 2), style(0, 3, 1, 2, 3), style(-1, 4, 0, api.SymRoot), style(-2, 5, 0), style(2, 6, 0), style(0, 7, 5, 0), style(0, 8, 5, api.SymRoot)}
	for i, want := range []int{0, 0, 2, 0, 3, 0, 4, 0} {
		if got := Leaf(s, l, i); got != want {
			t.Errorf("Leaf %d: %d, not %d", i, got, want)
		}
		if kind := l[i].Kind; kind == api.PartTok || kind == api.PartSkip {
			if got := Style(s, l[i].Sym, tree.Path(l, tree.Parents(l)[i])); got != want {
				t.Errorf("Style of %d: %d, not %d", i, got, want)
			}
		}
	}
	for _, i := range []int{-1, 8, math.MaxInt, math.MinInt} {
		if Leaf(s, l, i) != 0 {
			t.Errorf("there is no part %d", i)
		}
	}
	l[0].Kids = nil
	if Leaf(s, l, 2) != 0 || Leaf(s, nil, 0) != 0 {
		t.Error("a tree that is not valid")
	}
	if got := Leaf(s, []api.Part{{Kind: api.PartTok, Look: 1}}, 0); got != 1 {
		t.Error("a token without parent:", got)
	}
}

func TestExamples(t *testing.T) {
	s := []api.Style{style(0, 1, 0), style(0, 2, 1, 1)}
	if Style(s, 0, []int{api.SymRoot}) != 1 || Style(s, 0, []int{api.SymRoot, 1}) != 2 {
		t.Error(Style(s, 0, []int{api.SymRoot}), Style(s, 0, []int{api.SymRoot, 1}))
	}
}
