package gram

import (
	"math"
	"math/rand"
	"slices"
	"testing"

	"viewport/api"
	"viewport/sample"
)

// two has terminals 0 and 1, and nonterminals 2 and 3.
func two() api.Grammar {
	return api.Grammar{Terms: 2, Nons: 2, K: 1, Prods: []api.Prod{sample.Prod(0, 3, 0), sample.Prod(1), sample.Prod(1, 1, 3)}}
}

// derives tells by trees of a limited height whether a nonterminal derives a sequence in which terminals may occur or not.
func derives(g api.Grammar, non, height int, terminals bool) bool {
	if height == 0 {
		return false
	}
	return slices.ContainsFunc(g.Prods, func(p api.Prod) bool {
		return p.Left == non && !slices.ContainsFunc(p.Right, func(s int) bool {
			return s < g.Terms && !terminals || s >= g.Terms && !derives(g, s-g.Terms, height-1, terminals)
		})
	})
}

// reaches tells whether to is among what can be reached from a nonterminal in at most some steps of at least one.
func reaches(g api.Grammar, from, to, steps int, occurs func(p api.Prod, i int) bool) bool {
	if steps == 0 {
		return false
	}
	for _, p := range g.Prods {
		for i, s := range p.Right {
			if p.Left != from || s < g.Terms || !occurs(p, i) {
				continue
			}
			if s-g.Terms == to || reaches(g, s-g.Terms, to, steps-1, occurs) {
				return true
			}
		}
	}
	return false
}

func TestP11_1Check(t *testing.T) {
	long := func(f func(g *api.Grammar)) api.Grammar {
		g := two()
		f(&g)
		return g
	}
	many := slices.Repeat([]api.Prod{sample.Prod(0, 0)}, api.MaxProds+1)
	for i, x := range []struct {
		g    api.Grammar
		want api.Errno
	}{
		{two(), api.OK},
		{api.Grammar{}, api.ErrArg},
		{long(func(g *api.Grammar) { g.Terms = 8 }), api.OK},
		{long(func(g *api.Grammar) { g.Terms = 9 }), api.ErrLong},
		{long(func(g *api.Grammar) { g.Terms = 0 }), api.ErrArg},
		{long(func(g *api.Grammar) { g.Terms = -1 }), api.ErrArg},
		{api.Grammar{Terms: 0, Nons: 1, K: 1, Prods: []api.Prod{sample.Prod(0)}}, api.ErrArg},
		{api.Grammar{Terms: 1, Nons: 1, K: 1, Prods: []api.Prod{sample.Prod(0)}}, api.OK},
		{long(func(g *api.Grammar) { g.Terms = math.MaxInt; g.Nons = math.MaxInt }), api.ErrLong},
		{long(func(g *api.Grammar) { g.Terms = math.MinInt; g.Nons = math.MinInt }), api.ErrArg},
		{long(func(g *api.Grammar) { g.Nons = 16 }), api.OK},
		{long(func(g *api.Grammar) { g.Nons = 17 }), api.ErrLong},
		{long(func(g *api.Grammar) { g.Nons = 0 }), api.ErrArg},
		{long(func(g *api.Grammar) { g.Nons = 1 }), api.ErrArg},
		{long(func(g *api.Grammar) { g.K = 3 }), api.OK},
		{long(func(g *api.Grammar) { g.K = 4 }), api.ErrLong},
		{long(func(g *api.Grammar) { g.K = 0 }), api.ErrArg},
		{long(func(g *api.Grammar) { g.K = -1 }), api.ErrArg},
		{long(func(g *api.Grammar) { g.Prods = nil }), api.ErrArg},
		{long(func(g *api.Grammar) { g.Prods = many[:64] }), api.OK},
		{long(func(g *api.Grammar) { g.Prods = many }), api.ErrLong},
		{long(func(g *api.Grammar) { g.Prods[0].Left = 1 }), api.OK},
		{long(func(g *api.Grammar) { g.Prods[0].Left = 2 }), api.ErrArg},
		{long(func(g *api.Grammar) { g.Prods[0].Left = -1 }), api.ErrArg},
		{long(func(g *api.Grammar) { g.Prods[1].Right = []int{3} }), api.OK},
		{long(func(g *api.Grammar) { g.Prods[1].Right = []int{4} }), api.ErrArg},
		{long(func(g *api.Grammar) { g.Prods[1].Right = []int{0, -1} }), api.ErrArg},
		{long(func(g *api.Grammar) { g.Prods[2].Right = make([]int, 8) }), api.OK},
		{long(func(g *api.Grammar) { g.Prods[2].Right = make([]int, 9) }), api.ErrLong},
		{long(func(g *api.Grammar) { g.Prods[2].Right = slices.Repeat([]int{-1}, 9) }), api.ErrLong},
		{long(func(g *api.Grammar) { g.Prods[0].Left = -1; g.K = 4 }), api.ErrLong},
		{long(func(g *api.Grammar) { g.Terms = 0; g.Nons = 17 }), api.ErrLong},
	} {
		if got := Check(x.g); got != x.want {
			t.Errorf("%d: %d, not %d", i, got, x.want)
		}
		if x.want == api.OK {
			continue
		}
		bad, ok := Reduced(x.g)
		left, is := Left(x.g)
		if len(Of(x.g, 0)) != 0 || len(Nullable(x.g)) != 0 || len(Productive(x.g)) != 0 || len(Reachable(x.g)) != 0 || bad != 0 || ok || left != 0 || is {
			t.Errorf("%d: a grammar that is not valid has properties", i)
		}
	}
}

func TestP11_1Of(t *testing.T) {
	g := two()
	for left, want := range map[int][]int{0: {0}, 1: {1, 2}, 2: nil, -1: nil, math.MaxInt: nil} {
		if got := Of(g, left); !slices.Equal(got, want) {
			t.Errorf("Of %d: %v", left, got)
		}
	}
	g.Prods = append(g.Prods, sample.Prod(0))
	if got := Of(g, 0); !slices.Equal(got, []int{0, 3}) {
		t.Error(got)
	}
}

func TestP11_2Properties(t *testing.T) {
	r := rand.New(rand.NewSource(1))
	for range 3000 {
		g := sample.Grammar(r.Intn, 3, 5, 9)
		nullable, productive, reachable := Nullable(g), Productive(g), Reachable(g)
		if len(nullable) != g.Nons || len(productive) != g.Nons || len(reachable) != g.Nons {
			t.Fatal("not one for each nonterminal")
		}
		any := func(api.Prod, int) bool { return true }
		first := func(p api.Prod, i int) bool {
			return !slices.ContainsFunc(p.Right[:i], func(s int) bool { return s < g.Terms || !derives(g, s-g.Terms, g.Nons, false) })
		}
		bad, left := -1, -1
		for n := range g.Nons {
			if want := derives(g, n, g.Nons, false); nullable[n] != want {
				t.Fatalf("%v: nullable %d: %v", g, n, !want)
			}
			if want := derives(g, n, g.Nons, true); productive[n] != want {
				t.Fatalf("%v: productive %d: %v", g, n, !want)
			}
			if want := n == 0 || reaches(g, 0, n, g.Nons, any); reachable[n] != want {
				t.Fatalf("%v: reachable %d: %v", g, n, !want)
			}
			if nullable[n] && !productive[n] {
				t.Fatal("P11.3: a nullable nonterminal is not productive")
			}
			if bad < 0 && (!productive[n] || !reachable[n]) {
				bad = n
			}
			if left < 0 && reaches(g, n, n, g.Nons, first) {
				left = n
			}
		}
		if got, ok := Reduced(g); ok != (bad < 0) || got != max(bad, 0) {
			t.Fatalf("%v: Reduced: %d, %v, not %d", g, got, ok, bad)
		}
		if got, is := Left(g); is != (left >= 0) || got != max(left, 0) {
			t.Fatalf("%v: Left: %d, %v, not %d", g, got, is, left)
		}
	}
}

func TestP11_2Left(t *testing.T) {
	for i, x := range []struct {
		prods []api.Prod // over terminal 0 and nonterminals 1, 2, 3
		want  int
		is    bool
	}{
		{[]api.Prod{sample.Prod(0, 1)}, 0, true},
		{[]api.Prod{sample.Prod(0, 0, 1)}, 0, false},
		{[]api.Prod{sample.Prod(0, 2, 1), sample.Prod(1, 0)}, 0, false},
		{[]api.Prod{sample.Prod(0, 2, 1), sample.Prod(1)}, 0, true},
		{[]api.Prod{sample.Prod(0, 2, 3), sample.Prod(1, 3), sample.Prod(2, 2), sample.Prod(2)}, 1, true},
		{[]api.Prod{sample.Prod(0, 0, 3), sample.Prod(2, 2, 2, 3), sample.Prod(1)}, 2, true},
		{[]api.Prod{sample.Prod(0, 0, 3), sample.Prod(2, 2, 0, 3), sample.Prod(1)}, 0, false},
		{[]api.Prod{sample.Prod(0, 2, 0), sample.Prod(1, 1, 0), sample.Prod(2)}, 0, true},
	} {
		g := api.Grammar{Terms: 1, Nons: 3, K: 1, Prods: x.prods}
		if got, is := Left(g); got != x.want || is != x.is {
			t.Errorf("%d: %d, %v", i, got, is)
		}
	}
}

func TestP11_2CopyAndSame(t *testing.T) {
	strange := api.Grammar{Terms: -5, K: 99, Prods: []api.Prod{{Left: 77, Right: []int{-9}}, {}}}
	for _, g := range []api.Grammar{two(), strange, {}} {
		c := Copy(g)
		if !Same(g, c) || !Same(c, g) {
			t.Errorf("Copy of %v: %v", g, c)
		}
		for i := range c.Prods {
			c.Prods[i].Left++
			for j := range c.Prods[i].Right {
				c.Prods[i].Right[j]++
			}
			_ = append(c.Prods[i].Right, 1)
		}
		_ = append(c.Prods, sample.Prod(1))
		if len(g.Prods) > 0 && (Same(g, c) || !Same(g, Copy(g))) {
			t.Error("a copy shares memory")
		}
	}
	spare := two()
	spare.Prods[1].Right = make([]int, 0, 4)
	c := Copy(spare)
	c.Prods[1].Right = append(c.Prods[1].Right, 7)
	if spare.Prods[1].Right[:1][0] != 0 {
		t.Error("a copy uses spare capacity")
	}
	for i, spoil := range []func(g *api.Grammar){
		func(g *api.Grammar) { g.Terms++ },
		func(g *api.Grammar) { g.Nons++ },
		func(g *api.Grammar) { g.K++ },
		func(g *api.Grammar) { g.Prods = g.Prods[:2] },
		func(g *api.Grammar) { g.Prods[0].Left = 1 },
		func(g *api.Grammar) { g.Prods[0].Right[1] = 1 },
		func(g *api.Grammar) { g.Prods[0].Right = g.Prods[0].Right[:1] },
	} {
		g := two()
		spoil(&g)
		if Same(g, two()) || Same(two(), g) {
			t.Errorf("%d: the same", i)
		}
	}
	if !Same(api.Grammar{Prods: []api.Prod{{}}}, api.Grammar{Prods: []api.Prod{{Right: []int{}}}}) || !Same(api.Grammar{}, api.Grammar{Prods: []api.Prod{}}) {
		t.Error("nil and empty are the same")
	}
}

func TestExamples(t *testing.T) {
	g := two()
	if got := Nullable(g); !slices.Equal(got, []bool{false, true}) {
		t.Error(got)
	}
	if got, is := Left(g); got != 0 || is {
		t.Error(got, is)
	}
}
