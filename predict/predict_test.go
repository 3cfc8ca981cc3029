package predict

import (
	"math"
	"math/rand"
	"slices"
	"testing"

	"viewport/api"
	"viewport/first"
	"viewport/follow"
	"viewport/gram"
	"viewport/sample"
)

// list is 0: t0 0; 0: nothing.
func list(k int) api.Grammar {
	return api.Grammar{Terms: 1, Nons: 1, K: k, Prods: []api.Prod{sample.Prod(0, 0, 1), sample.Prod(0)}}
}

// naive tells the first conflict by going through all possible rows.
func naive(g api.Grammar) (api.Conflict, bool) {
	rows := make([][]string, len(g.Prods))
	firsts, follows := first.Sets(g), follow.Sets(g)
	for i, p := range g.Prods {
		for _, x := range first.Of(g, firsts, p.Right) {
			for _, y := range follows[p.Left] {
				rows[i] = append(rows[i], (x + y)[:min(g.K, len(x+y))])
			}
		}
	}
	for left := range g.Nons {
		for a, p := range g.Prods {
			for b, q := range g.Prods {
				if a >= b || p.Left != left || q.Left != left {
					continue
				}
				for row := range first.Rows(g.Terms, g.K) {
					if slices.Contains(rows[a], row) && slices.Contains(rows[b], row) {
						return api.Conflict{Left: left, A: a, B: b, Row: row}, true
					}
				}
			}
		}
	}
	return api.Conflict{}, false
}

func TestP14_1(t *testing.T) {
	r := rand.New(rand.NewSource(1))
	strong := 0
	for range 3000 {
		g := sample.Grammar(r.Intn, 3, 3, 6)
		want, is := naive(g)
		c, ok := Strong(g)
		if c != want || ok == is {
			t.Fatalf("Strong of %v: %v, %v, not %v", g, c, ok, want)
		}
		table, c, e := Build(g)
		if is {
			if e != api.ErrState || c != want || len(table.Look) != 0 {
				t.Fatalf("Build of %v: %v, %v, %d", g, table, c, e)
			}
		} else {
			strong++
			if e != api.OK || c != (api.Conflict{}) || len(table.Look) != len(g.Prods) {
				t.Fatalf("Build of %v: %v, %v, %d", g, table, c, e)
			}
			firsts, follows := first.Sets(g), follow.Sets(g)
			for i, p := range g.Prods {
				if rows := first.Cat(g.K, first.Of(g, firsts, p.Right), follows[p.Left]); !slices.Equal(rows, table.Look[i]) {
					t.Fatalf("%v: the rows of %d: %q, not %q", g, i, table.Look[i], rows)
				}
			}
			for left := range g.Nons {
				for row := range first.Rows(g.Terms, g.K) {
					want, n := -1, 0
					for i, p := range g.Prods {
						if p.Left == left && slices.Contains(table.Look[i], row) {
							want, n = i, n+1
						}
					}
					if n > 1 || Predict(g, table, left, row) != want {
						t.Fatalf("P14.3: %v: %d, %q: %d of %d", g, left, row, want, n)
					}
				}
			}
		}
		accepted := api.OK
		_, reduced := gram.Reduced(g)
		_, left := gram.Left(g)
		switch {
		case !reduced:
			accepted = api.ErrNone
		case left:
			accepted = api.ErrBad
		case is:
			accepted = api.ErrState
		}
		if got := Accept(g); got != accepted {
			t.Fatalf("Accept of %v: %d, not %d", g, got, accepted)
		}
	}
	if strong < 300 {
		t.Error("few of the grammars are strong:", strong)
	}
}

func TestP14_1Errors(t *testing.T) {
	long := list(4)
	left := api.Grammar{Terms: 1, Nons: 1, K: 1, Prods: []api.Prod{sample.Prod(0, 1, 0), sample.Prod(0)}}
	idle := api.Grammar{Terms: 1, Nons: 2, K: 1, Prods: []api.Prod{sample.Prod(0, 1, 0), sample.Prod(0), sample.Prod(1)}}
	weak := api.Grammar{Terms: 1, Nons: 1, K: 1, Prods: []api.Prod{sample.Prod(0), sample.Prod(0)}}
	barren := api.Grammar{Terms: 1, Nons: 2, K: 1, Prods: []api.Prod{sample.Prod(0, 2), sample.Prod(0), sample.Prod(0)}}
	for i, x := range []struct {
		g             api.Grammar
		accept, build api.Errno
		first         api.Conflict
		strong        bool
	}{
		{g: list(1), strong: true},
		{g: list(3), strong: true},
		{g: api.Grammar{}, accept: api.ErrArg, build: api.ErrArg},
		{g: long, accept: api.ErrLong, build: api.ErrLong},
		{g: left, accept: api.ErrBad, build: api.ErrState, first: api.Conflict{Left: 0, A: 0, B: 1, Row: "\x00"}},
		{g: idle, accept: api.ErrNone, build: api.ErrState, first: api.Conflict{Left: 0, A: 0, B: 1, Row: "\x00"}},
		{g: weak, accept: api.ErrState, build: api.ErrState, first: api.Conflict{Left: 0, A: 0, B: 1, Row: "\xff"}},
		{g: barren, accept: api.ErrNone, build: api.ErrState, first: api.Conflict{Left: 0, A: 1, B: 2, Row: "\xff"}},
	} {
		table, c, e := Build(x.g)
		if e != x.build || c != x.first || (e == api.OK) != (len(table.Look) > 0) {
			t.Errorf("%d: Build: %v, %v, %d", i, table, c, e)
		}
		if c, ok := Strong(x.g); c != x.first || ok != x.strong {
			t.Errorf("%d: Strong: %v, %v", i, c, ok)
		}
		if e := Accept(x.g); e != x.accept {
			t.Errorf("%d: Accept: %d, not %d", i, e, x.accept)
		}
	}
}

func TestP14_1FirstConflict(t *testing.T) {
	// Nonterminal 1 has conflicts between 2 and 5, 2 and 6, 4 and 5 ..., nonterminal 0 one between 0 and 7.
	g := api.Grammar{Terms: 3, Nons: 2, K: 1, Prods: []api.Prod{sample.Prod(1, 0), sample.Prod(1, 1), sample.Prod(1, 2, 1), sample.Prod(0, 0, 4), sample.Prod(1, 1, 2), sample.Prod(1, 2), sample.Prod(1, 2, 2), sample.Prod(0, 1)}}
	if c, ok := Strong(g); ok || c != (api.Conflict{Left: 1, A: 1, B: 4, Row: "\x01"}) {
		t.Error(c, ok)
	}
	g.Prods = append(g.Prods, sample.Prod(0, 4))
	if c, ok := Strong(g); ok || c != (api.Conflict{Left: 0, A: 3, B: 8, Row: "\x00"}) {
		t.Error(c, ok)
	}
	// Both productions have two rows in common.
	h := api.Grammar{Terms: 3, Nons: 2, K: 1, Prods: []api.Prod{sample.Prod(1, 2), sample.Prod(1, 1), sample.Prod(0, 4, 0), sample.Prod(0, 4)}}
	if c, ok := Strong(h); ok || c != (api.Conflict{Left: 0, A: 2, B: 3, Row: "\x01"}) {
		t.Error(c, ok)
	}
}

func TestP14_2Predict(t *testing.T) {
	g := list(1)
	table, _, _ := Build(g)
	for _, x := range []struct {
		left int
		row  string
		want int
	}{{0, "\x00", 0}, {0, "\xff", 1}, {0, "", -1}, {0, "\x01", -1}, {0, "\x00\x00", -1}, {1, "\x00", -1}, {-1, "\x00", -1}, {math.MaxInt, "\x00", -1}, {0, "\xfe", -1}} {
		if got := Predict(g, table, x.left, x.row); got != x.want {
			t.Errorf("Predict of %d, %q: %d", x.left, x.row, got)
		}
	}
	bad := g
	bad.K = 9
	for _, look := range [][][]string{nil, {{"\x00"}}, {{"\x00"}, nil, nil}} {
		if got := Predict(g, api.Table{Look: look}, 0, "\x00"); got != -1 {
			t.Error("a table with another number of productions:", got)
		}
	}
	if got := Predict(bad, table, 0, "\x00"); got != -1 {
		t.Error(got)
	}
	// Any table counts, also one whose rows are not in order, and in which several productions have a row.
	if got := Predict(g, api.Table{Look: [][]string{{"b", "c", "a"}, {"a"}}}, 0, "a"); got != 0 {
		t.Error(got)
	}
	if got := Predict(g, api.Table{Look: [][]string{{"b"}, {"a", ""}}}, 0, ""); got != 1 {
		t.Error(got)
	}
}

func TestP14_2Row(t *testing.T) {
	for i, x := range []struct {
		k     int
		kinds []int
		want  string
	}{
		{2, []int{0, 1, 2}, "\x00\x01"},
		{3, []int{0, 1}, "\x00\x01"},
		{3, []int{0, api.KindEnd, 1}, "\x00\xff"},
		{1, []int{api.KindEnd}, "\xff"},
		{3, []int{api.KindBad, -3, 254}, "\xfe\xfe\xfe"},
		{3, []int{253, 255, math.MaxInt}, "\xfd\xfe\xfe"},
		{2, []int{math.MinInt, 7}, "\xfe\x07"},
		{0, []int{1}, ""},
		{-1, []int{1}, ""},
		{math.MinInt, []int{1}, ""},
		{math.MaxInt, []int{1, 2}, "\x01\x02"},
		{5, nil, ""},
	} {
		if got := Row(x.k, x.kinds); got != x.want {
			t.Errorf("%d: %q, not %q", i, got, x.want)
		}
	}
}

func TestSame(t *testing.T) {
	a := api.Table{Look: [][]string{{"a", "b"}, nil}}
	if !Same(a, api.Table{Look: [][]string{{"a", "b"}, {}}}) || !Same(api.Table{}, api.Table{Look: [][]string{}}) {
		t.Error("not the same")
	}
	for i, look := range [][][]string{nil, {{"a", "b"}}, {{"a"}, nil}, {{"a", "c"}, nil}, {nil, {"a", "b"}}} {
		if b := (api.Table{Look: look}); Same(a, b) || Same(b, a) {
			t.Errorf("%d: the same", i)
		}
	}
}

func TestRowsShareNoMemory(t *testing.T) {
	table, _, _ := Build(list(2))
	for i := range table.Look {
		l := table.Look[i]
		_ = append(l, "x")
		for j := range l {
			l[j] = "x"
		}
	}
	if again, _, _ := Build(list(2)); slices.Contains(again.Look[0], "x") {
		t.Error("a table shares memory with another one")
	}
}

func TestExamples(t *testing.T) {
	g := api.Grammar{Terms: 2, Nons: 1, K: 1, Prods: []api.Prod{sample.Prod(0, 0, 1), sample.Prod(0, 0, 0)}}
	if c, ok := Strong(g); ok || c != (api.Conflict{Left: 0, A: 0, B: 1, Row: "\x00"}) {
		t.Error(c, ok)
	}
	g.K = 2
	table, _, e := Build(g)
	if e != api.OK || Predict(g, table, 0, "\x00\x00") != 1 {
		t.Error(table, e)
	}
}
