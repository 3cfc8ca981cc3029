package cost

import (
	"math/rand"
	"slices"
	"testing"

	"viewport/api"
	"viewport/predict"
	"viewport/sample"
)

func list(k int) api.Grammar {
	return api.Grammar{Terms: 1, Nons: 1, K: k, Prods: []api.Prod{sample.Prod(0, 0, 1), sample.Prod(0)}}
}

func random(r *rand.Rand) api.Grammar {
	g := api.Grammar{Terms: 1 + r.Intn(3), Nons: 1 + r.Intn(4), K: 1 + r.Intn(3)}
	for n := range g.Nons {
		for range 1 + r.Intn(2) {
			p := sample.Prod(n)
			for range r.Intn(4) {
				p.Right = append(p.Right, r.Intn(g.Terms+g.Nons))
			}
			g.Prods = append(g.Prods, p)
		}
	}
	return g
}

// accepted returns random grammars that are accepted, and some that try one thing each.
func accepted(t *testing.T) []api.Grammar {
	r := rand.New(rand.NewSource(1))
	l := []api.Grammar{
		list(1), list(3),
		// Expressions: t0 a number, t1 a sign, t2 and t3 parentheses.
		{Terms: 4, Nons: 3, K: 1, Prods: []api.Prod{sample.Prod(0, 6, 5), sample.Prod(1, 1, 6, 5), sample.Prod(1), sample.Prod(2, 0), sample.Prod(2, 2, 4, 3)}},
		// Nullable nonterminals inside one another.
		{Terms: 2, Nons: 4, K: 1, Prods: []api.Prod{sample.Prod(0, 3, 4, 0), sample.Prod(1, 4, 5), sample.Prod(1, 1), sample.Prod(2, 5, 5), sample.Prod(3)}},
		{Terms: 2, Nons: 4, K: 1, Prods: []api.Prod{sample.Prod(0, 3, 3, 0), sample.Prod(1, 4, 4), sample.Prod(2, 5, 5), sample.Prod(3)}},
		// Nonterminal 0 is nullable, and inside others.
		{Terms: 1, Nons: 2, K: 1, Prods: []api.Prod{sample.Prod(0), sample.Prod(0, 0, 2), sample.Prod(1, 1)}},
		// Three tokens decide.
		{Terms: 2, Nons: 1, K: 3, Prods: []api.Prod{sample.Prod(0, 0, 0, 0), sample.Prod(0, 0, 0, 1), sample.Prod(0, 0, 1), sample.Prod(0, 0)}},
	}
	for len(l) < 150 {
		if g := random(r); predict.Accept(g) == api.OK {
			l = append(l, g)
		}
	}
	return l
}

// shortest returns the smallest number of replacements by which symbols derive the empty sequence, -1 if there is none in trees of a height.
func shortest(g api.Grammar, right []int, height int) int {
	sum := 0
	for _, s := range right {
		if s < g.Terms || height == 0 {
			return -1
		}
		least := -1
		for _, p := range g.Prods {
			if p.Left != s-g.Terms {
				continue
			}
			if n := shortest(g, p.Right, height-1); n >= 0 && (least < 0 || n+1 < least) {
				least = n + 1
			}
		}
		if least < 0 {
			return -1
		}
		sum += least
	}
	return sum
}

// deepest follows nonterminals that may begin inside one another.
func deepest(g api.Grammar, non int) int {
	depth := 1
	for _, p := range g.Prods {
		if p.Left != non {
			continue
		}
		for i, s := range p.Right {
			if s >= g.Terms && shortest(g, p.Right[:i], g.Nons) >= 0 {
				depth = max(depth, 1+deepest(g, s-g.Terms))
			}
		}
	}
	return depth
}

// splits tells where what symbols derive may end if it begins at a position of s. No nonterminal of the samples is left-recursive.
func splits(g api.Grammar, right []int, s string, at int) []int {
	if len(right) == 0 {
		return []int{at}
	}
	var ends []int
	if right[0] < g.Terms {
		if at < len(s) && int(s[at]) == right[0] {
			ends = append(ends, at+1)
		}
	} else {
		for _, p := range g.Prods {
			if p.Left == right[0]-g.Terms {
				ends = append(ends, splits(g, p.Right, s, at)...)
			}
		}
	}
	var out []int
	for _, end := range ends {
		for _, x := range splits(g, right[1:], s, end) {
			if !slices.Contains(out, x) {
				out = append(out, x)
			}
		}
	}
	return out
}

// replay derives by productions alone, the leftmost nonterminal first.
func replay(g api.Grammar, prods []int) (string, bool) {
	form := []int{g.Terms}
	out := ""
	for len(form) > 0 {
		s := form[0]
		form = form[1:]
		if s < g.Terms {
			out += string([]byte{byte(s)})
			continue
		}
		if len(prods) == 0 || g.Prods[prods[0]].Left != s-g.Terms {
			return "", false
		}
		form = slices.Concat(g.Prods[prods[0]].Right, form)
		prods = prods[1:]
	}
	return out, len(prods) == 0
}

func strings(terms, n int) []string {
	l := []string{""}
	for from := 0; n > 0; n-- {
		to := len(l)
		for _, s := range l[from:to] {
			for b := range terms {
				l = append(l, s+string([]byte{byte(b)}))
			}
		}
		from = to
	}
	return l
}

func TestP15_1(t *testing.T) {
	for _, g := range accepted(t) {
		null, deep := Null(g), Deep(g)
		if len(null) != g.Nons || len(deep) != g.Nons {
			t.Fatal(null, deep)
		}
		for n := range g.Nons {
			if want := shortest(g, []int{g.Terms + n}, g.Nons); null[n] != want {
				t.Fatalf("%v: Null of %d: %d, not %d", g, n, null[n], want)
			}
			if want := deepest(g, n); deep[n] != want {
				t.Fatalf("%v: Deep of %d: %d, not %d", g, n, deep[n], want)
			}
		}
		long := 0
		for _, p := range g.Prods {
			long = max(long, len(p.Right))
		}
		if want := slices.Max(deep)*(1+long*max(0, slices.Max(null))) + 1; Const(g) != want {
			t.Fatalf("%v: Const: %d, not %d", g, Const(g), want)
		}
	}
}

func TestP15_1Table(t *testing.T) {
	g := api.Grammar{Terms: 2, Nons: 4, K: 1, Prods: []api.Prod{sample.Prod(0, 3, 3, 0), sample.Prod(1, 4, 4), sample.Prod(2, 5, 5), sample.Prod(3)}}
	if got := Null(g); !slices.Equal(got, []int{-1, 7, 3, 1}) {
		t.Error(got)
	}
	if got := Deep(g); !slices.Equal(got, []int{4, 3, 2, 1}) {
		t.Error(got)
	}
	if got := Const(g); got != 4*(1+3*7)+1 {
		t.Error(got)
	}
	none := api.Grammar{Terms: 1, Nons: 1, K: 1, Prods: []api.Prod{sample.Prod(0, 0)}}
	if Const(none) != 2 || !slices.Equal(Null(none), []int{-1}) || !slices.Equal(Deep(none), []int{1}) {
		t.Error(Const(none), Null(none), Deep(none))
	}
	for i, bad := range []api.Grammar{
		{},
		{Terms: 1, Nons: 1, K: 4, Prods: []api.Prod{sample.Prod(0)}},
		{Terms: 1, Nons: 2, K: 1, Prods: []api.Prod{sample.Prod(0), sample.Prod(1)}},
		{Terms: 1, Nons: 1, K: 1, Prods: []api.Prod{sample.Prod(0, 1, 0), sample.Prod(0)}},
		{Terms: 1, Nons: 1, K: 1, Prods: []api.Prod{sample.Prod(0), sample.Prod(0)}},
	} {
		prods, ok := Derive(bad, api.Table{Look: make([][]string, len(bad.Prods))}, "")
		steps, ok2 := Steps(bad, api.Table{Look: make([][]string, len(bad.Prods))}, "")
		if len(Null(bad)) != 0 || len(Deep(bad)) != 0 || Const(bad) != 0 || len(prods) != 0 || ok || steps != 0 || ok2 {
			t.Errorf("%d: a grammar that is not accepted has bounds", i)
		}
	}
}

func TestP15_2Large(t *testing.T) {
	// 1, 9, 73, 585, 4,681: that is 5 * (1 + 8 * 4,681) + 1 for five nonterminals.
	most := sample.Tower(api.MaxNons, api.MaxRight)
	if got := Null(most)[0]; got != 40210710958665 {
		t.Error(got)
	}
	if got := Const(most); got != 16*(1+8*40210710958665)+1 {
		t.Error(got)
	}
	for _, x := range []struct {
		height, width int
		ok            bool
	}{{4, 8, true}, {5, 8, false}, {5, 4, true}} {
		g := sample.Tower(x.height, x.width)
		table, _, e := predict.Build(g)
		prods, ok := Derive(g, table, "")
		steps, ok2 := Steps(g, table, "")
		if e != api.OK || ok != x.ok || ok2 != x.ok || ok != (Const(g) <= api.MaxConst) || ok && (steps != Null(g)[0] || len(prods) != steps) || !ok && (steps != 0 || len(prods) != 0) {
			t.Errorf("%d, %d: %d, %v, %d", x.height, x.width, steps, ok, Const(g))
		}
	}
}

func TestP15_2MaxConst(t *testing.T) {
	for i, g := range []api.Grammar{sample.MostConst(), sample.OverConst()} {
		table, _, e := predict.Build(g)
		steps, ok := Steps(g, table, "")
		if e != api.OK || Const(g) != api.MaxConst+i || ok != (i == 0) || ok && steps != 728 {
			t.Error(e, Const(g), steps, ok)
		}
	}
}

func TestP15_2(t *testing.T) {
	for _, g := range accepted(t) {
		table, _, _ := predict.Build(g)
		for _, s := range append(strings(g.Terms, 5), "\x00\xff", "\xff", "\xfe", "\x09") {
			want := slices.Contains(splits(g, []int{g.Terms}, s, 0), len(s))
			prods, ok := Derive(g, table, s)
			steps, ok2 := Steps(g, table, s)
			if ok != want || ok2 != want {
				t.Fatalf("P15.3: %v: %q: %v, %v", g, s, ok, ok2)
			}
			if !ok {
				if len(prods) != 0 || steps != 0 {
					t.Fatalf("%v: %q: %v, %d", g, s, prods, steps)
				}
				continue
			}
			if text, ok := replay(g, prods); !ok || text != s {
				t.Fatalf("%v: %q is derived as %v", g, s, prods)
			}
			if steps != len(prods)+len(s) || steps > Const(g)*(len(s)+1) {
				t.Fatalf("P15.3: %v: %q: %d steps", g, s, steps)
			}
		}
		wrong := api.Table{Look: slices.Clone(table.Look)}
		wrong.Look[0] = append([]string{"\x07"}, wrong.Look[0]...)
		for _, bad := range []api.Table{{}, wrong} {
			for _, s := range strings(g.Terms, 2) {
				prods, ok := Derive(g, bad, s)
				steps, ok2 := Steps(g, bad, s)
				if ok || ok2 || len(prods) != 0 || steps != 0 {
					t.Fatalf("%v: another table derives %q", g, s)
				}
			}
		}
	}
}

func TestLongDerivation(t *testing.T) {
	g := list(2)
	table, _, _ := predict.Build(g)
	s := string(make([]byte, 20000))
	if prods, ok := Derive(g, table, s); !ok || len(prods) != 20001 || prods[20000] != 1 {
		t.Error(len(prods), ok)
	}
	if steps, ok := Steps(g, table, s); !ok || steps != 40001 {
		t.Error(steps, ok)
	}
}

func TestExamples(t *testing.T) {
	g := list(1)
	table, _, _ := predict.Build(g)
	if prods, ok := Derive(g, table, "\x00\x00"); !ok || !slices.Equal(prods, []int{0, 0, 1}) {
		t.Error(prods, ok)
	}
	if steps, ok := Steps(g, table, "\x00\x00"); !ok || steps != 5 || Const(g) != 4 {
		t.Error(steps, ok, Const(g))
	}
}
