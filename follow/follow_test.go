package follow

import (
	"math"
	"math/rand"
	"slices"
	"testing"

	"viewport/api"
	"viewport/first"
	"viewport/sample"
)

// naive goes from an occurrence with its rest to the occurrences in each production of it, from nonterminal 0 on. A rest matters by its rows alone.
func naive(g api.Grammar) []map[string]bool {
	firsts := first.Sets(g)
	out := make([]map[string]bool, g.Nons)
	for n := range out {
		out[n] = map[string]bool{}
	}
	type occurrence struct {
		non  int
		rest string // one row of what comes after it
	}
	todo := []occurrence{{0, "\xff"}}
	for len(todo) > 0 {
		o := todo[0]
		todo = todo[1:]
		if out[o.non][o.rest] {
			continue
		}
		out[o.non][o.rest] = true
		for _, p := range g.Prods {
			for i, s := range p.Right {
				if p.Left != o.non || s < g.Terms {
					continue
				}
				for _, row := range first.Of(g, firsts, p.Right[i+1:]) {
					row += o.rest
					todo = append(todo, occurrence{s - g.Terms, row[:min(len(row), g.K)]})
				}
			}
		}
	}
	return out
}

func TestP13_1(t *testing.T) {
	r := rand.New(rand.NewSource(1))
	for range 1500 {
		g := sample.Grammar(r.Intn, 3, 4, 8)
		sets, next := Sets(g), Next(g)
		if len(sets) != g.Nons || len(next) != g.Nons {
			t.Fatal(sets, next)
		}
		for n, want := range naive(g) {
			var rows []string
			begins := make([]bool, g.Terms+1)
			for row := range want {
				rows = append(rows, row)
				if row[0] == api.End {
					begins[g.Terms] = true
				} else {
					begins[row[0]] = true
				}
			}
			slices.Sort(rows)
			if !slices.Equal(sets[n], rows) {
				t.Fatalf("%v: FOLLOW of %d: %q, not %q", g, n, sets[n], rows)
			}
			if !slices.Equal(next[n], begins) {
				t.Fatalf("%v: Next of %d: %v, not %v", g, n, next[n], begins)
			}
			if Ends(g, n) != want["\xff"] {
				t.Fatalf("%v: Ends of %d: %v", g, n, Ends(g, n))
			}
		}
	}
}

func TestP13_1Table(t *testing.T) {
	// 2 derives only what contains itself: End follows it, but nothing follows what stands before it, as 3 does.
	g := api.Grammar{Terms: 2, Nons: 4, K: 2, Prods: []api.Prod{sample.Prod(0, 3, 0, 3), sample.Prod(1, 1), sample.Prod(1), sample.Prod(2, 3, 4), sample.Prod(0, 5, 4), sample.Prod(3)}}
	sets := Sets(g)
	want := [][]string{{"\xff"}, {"\x00\x01", "\x00\xff", "\xff"}, {"\xff"}, nil}
	if !slices.EqualFunc(sets, want, slices.Equal[[]string]) {
		t.Errorf("%q", sets)
	}
	for left, want := range map[int]bool{0: true, 1: true, 2: true, 3: false, 4: false, -1: false, math.MaxInt: false, math.MinInt: false} {
		if Ends(g, left) != want {
			t.Errorf("Ends of %d: %v", left, !want)
		}
	}
	next := Next(g)
	if !slices.Equal(next[1], []bool{true, false, true}) || !slices.Equal(next[3], []bool{false, false, false}) {
		t.Error(next)
	}
	// A FOLLOW that begins with End and ends the input is not End alone if a token comes before it.
	h := api.Grammar{Terms: 1, Nons: 2, K: 2, Prods: []api.Prod{sample.Prod(0, 2, 0), sample.Prod(1, 0)}}
	if Ends(h, 1) || !Ends(h, 0) || !slices.Equal(Sets(h)[1], []string{"\x00\xff"}) {
		t.Errorf("%q", Sets(h))
	}
	for _, bad := range []api.Grammar{{}, {Terms: 1, Nons: 1, K: 4, Prods: []api.Prod{sample.Prod(0)}}, {Terms: 1, Nons: 1, K: 1, Prods: []api.Prod{sample.Prod(0, 2)}}} {
		if len(Sets(bad)) != 0 || len(Next(bad)) != 0 || Ends(bad, 0) {
			t.Errorf("%v is not valid", bad)
		}
	}
}

func TestP13_2(t *testing.T) {
	r := rand.New(rand.NewSource(2))
	for range 500 {
		g := sample.Grammar(r.Intn, 3, 4, 8)
		sets, firsts := Sets(g), first.Sets(g)
		if !first.Has(sets[0], "\xff") {
			t.Fatal("End is not in the FOLLOW of 0")
		}
		for _, p := range g.Prods {
			for i, s := range p.Right {
				if s < g.Terms {
					continue
				}
				for _, row := range first.Cat(g.K, first.Of(g, firsts, p.Right[i+1:]), sets[p.Left]) {
					if !first.Has(sets[s-g.Terms], row) {
						t.Fatalf("%v: %q is not in the FOLLOW of %d", g, row, s-g.Terms)
					}
				}
			}
		}
	}
}

func TestExamples(t *testing.T) {
	g := api.Grammar{Terms: 2, Nons: 2, K: 1, Prods: []api.Prod{sample.Prod(0, 3, 0), sample.Prod(1, 1), sample.Prod(1)}}
	sets := Sets(g)
	if len(sets) != 2 || !slices.Equal(sets[0], []string{"\xff"}) || !slices.Equal(sets[1], []string{"\x00"}) {
		t.Errorf("%q", sets)
	}
}
