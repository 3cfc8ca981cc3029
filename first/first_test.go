package first

import (
	"math"
	"math/rand"
	"slices"
	"strings"
	"testing"

	"viewport/api"
	"viewport/sample"
)

// heads returns the first K tokens of all sequences that symbols derive, by trees whose heights grow until nothing is added for long enough.
func heads(g api.Grammar, right []int) []string {
	known := make([]map[string]bool, g.Nons)
	for i := range known {
		known[i] = map[string]bool{}
	}
	join := func(right []int) map[string]bool {
		all := map[string]bool{"": true}
		for _, s := range right {
			next := map[string]bool{}
			for x := range all {
				if s < g.Terms {
					y := x + string([]byte{byte(s)})
					next[y[:min(g.K, len(y))]] = true
					continue
				}
				for y := range known[s-g.Terms] {
					y = x + y
					next[y[:min(g.K, len(y))]] = true
				}
			}
			all = next
		}
		return all
	}
	// A set grows at least once in as many rounds as there are nonterminals, and has at most 40 rows here.
	for range 40 * g.Nons * g.Nons {
		for _, p := range g.Prods {
			for row := range join(p.Right) {
				known[p.Left][row] = true
			}
		}
	}
	var out []string
	for row := range join(right) {
		out = append(out, row)
	}
	slices.Sort(out)
	return out
}

// naiveCat joins by the words of the document.
func naiveCat(k int, a, b []string) []string {
	k = max(k, 0)
	var out []string
	for _, x := range a {
		for _, y := range b {
			row := x
			if len(x) != k && !strings.HasSuffix(x, "\xff") {
				row += y
			}
			out = append(out, row[:min(k, len(row))])
		}
	}
	slices.Sort(out)
	return slices.Compact(out)
}

func randomRows(r *rand.Rand) []string {
	var l []string
	for range r.Intn(6) {
		row := make([]byte, r.Intn(5))
		for i := range row {
			row[i] = "\x00\x01\x02\xff"[r.Intn(4)]
		}
		l = append(l, string(row))
	}
	return l
}

func TestP12_1Cat(t *testing.T) {
	for i, x := range []struct {
		k          int
		a, b, want []string
	}{
		{1, []string{""}, []string{""}, []string{""}},
		{1, nil, []string{"a"}, nil},
		{1, []string{"a"}, nil, nil},
		{2, []string{"a", ""}, []string{"b", "bc", ""}, []string{"", "a", "ab", "b", "bc"}},
		{1, []string{"a", ""}, []string{"b"}, []string{"a", "b"}},
		{3, []string{"a\xff", "b"}, []string{"c", "\xff"}, []string{"a\xff", "bc", "b\xff"}},
		{2, []string{"abc"}, []string{"d"}, []string{"ab"}},
		{0, []string{"a", "b"}, []string{"c"}, []string{""}},
		{-1, []string{"a", "b", ""}, []string{"c"}, []string{""}},
		{math.MinInt, []string{"a"}, []string{"c"}, []string{""}},
		{math.MinInt, []string{"a"}, nil, nil},
		{math.MaxInt, []string{"b", "a", "b"}, []string{"d", "c"}, []string{"ac", "ad", "bc", "bd"}},
		{1, []string{"\xff\xff", "\xffa"}, []string{"c"}, []string{"\xff"}},
		{3, []string{"\xffa"}, []string{"c"}, []string{"\xffac"}},
	} {
		if got := Cat(x.k, x.a, x.b); !slices.Equal(got, x.want) {
			t.Errorf("%d: %q, not %q", i, got, x.want)
		}
	}
	r := rand.New(rand.NewSource(1))
	for range 3000 {
		k, a, b := r.Intn(5), randomRows(r), randomRows(r)
		if got, want := Cat(k, a, b), naiveCat(k, a, b); !slices.Equal(got, want) {
			t.Fatalf("Cat(%d, %q, %q): %q, not %q", k, a, b, got, want)
		}
	}
}

func TestP12_1UnionAndHas(t *testing.T) {
	r := rand.New(rand.NewSource(2))
	for range 1000 {
		a, b := randomRows(r), append(make([]string, 0, 9), randomRows(r)...)
		was := slices.Clone(a)
		got := Union(a, b)
		if !slices.Equal(was, a) || b[:cap(b)][cap(b)-1] != "" {
			t.Fatal("an argument has changed")
		}
		for i, row := range got {
			if !slices.Contains(a, row) && !slices.Contains(b, row) || i > 0 && got[i-1] >= row {
				t.Fatalf("Union of %q, %q: %q", a, b, got)
			}
		}
		for _, row := range slices.Concat(a, b, randomRows(r)) {
			if Has(got, row) != (slices.Contains(a, row) || slices.Contains(b, row)) {
				t.Fatalf("Has %q of %q, %q: %v", row, a, b, Has(got, row))
			}
		}
	}
	if len(Union(nil, nil)) != 0 || Has(nil, "") || !Has([]string{""}, "") {
		t.Error("no rows")
	}
}

func TestP12_1Rows(t *testing.T) {
	for terms := -1; terms <= 9; terms++ {
		for k := -1; k <= 4; k++ {
			var want []string
			if terms >= 0 && terms <= 8 && k >= 1 && k <= 3 {
				short := []string{""}
				for range k {
					var next []string
					for _, row := range short {
						want = append(want, row+"\xff")
						for b := range terms {
							next = append(next, row+string([]byte{byte(b)}))
						}
					}
					short = next
				}
				want = append(want, short...)
				slices.Sort(want)
			}
			seq := Rows(terms, k)
			if got := slices.Collect(seq); !slices.Equal(got, want) {
				t.Errorf("Rows(%d, %d): %q, not %q", terms, k, got, want)
			}
			if got := slices.Collect(seq); !slices.Equal(got, want) {
				t.Errorf("Rows(%d, %d), the second time: %q", terms, k, got)
			}
		}
	}
	n := 0
	for row := range Rows(3, 3) {
		if n++; row == "\x00\x01\x02" {
			break
		}
	}
	if n != 7 {
		t.Error(n)
	}
	for range Rows(math.MaxInt, math.MaxInt) {
		t.Error("rows")
	}
}

func TestP12_2Sets(t *testing.T) {
	r := rand.New(rand.NewSource(3))
	for range 250 {
		g := sample.Grammar(r.Intn, 3, 4, 8)
		sets := Sets(g)
		if len(sets) != g.Nons {
			t.Fatal(sets)
		}
		for n := range g.Nons {
			if want := heads(g, []int{g.Terms + n}); !slices.Equal(sets[n], want) {
				t.Fatalf("%v: FIRST of %d: %q, not %q", g, n, sets[n], want)
			}
		}
		right := make([]int, r.Intn(5))
		for i := range right {
			right[i] = r.Intn(g.Terms + g.Nons)
		}
		if got, want := Of(g, sets, right), heads(g, right); !slices.Equal(got, want) {
			t.Fatalf("%v: FIRST of %v: %q, not %q", g, right, got, want)
		}
		for _, p := range g.Prods {
			for _, row := range Of(g, sets, p.Right) {
				if !Has(sets[p.Left], row) {
					t.Fatal("P12.3: the FIRST of a right side is not contained in that of its left side")
				}
			}
		}
	}
}

func TestP12_2Errors(t *testing.T) {
	g := api.Grammar{Terms: 2, Nons: 2, K: 2, Prods: []api.Prod{sample.Prod(0, 0, 3), sample.Prod(1), sample.Prod(1, 1, 3)}}
	sets := Sets(g)
	if len(sets) != 2 || !slices.Equal(sets[0], []string{"\x00", "\x00\x01"}) || !slices.Equal(sets[1], []string{"", "\x01", "\x01\x01"}) {
		t.Fatalf("%q", sets)
	}
	bad := g
	bad.K = 0
	if len(Sets(bad)) != 0 || len(Of(bad, sets, nil)) != 0 || len(Sets(api.Grammar{})) != 0 {
		t.Error("a grammar that is not valid has sets")
	}
	for _, right := range [][]int{{4}, {-1}, {0, math.MaxInt}, {math.MinInt}} {
		if got := Of(g, sets, right); len(got) != 0 {
			t.Errorf("Of %v: %q", right, got)
		}
	}
	if len(Of(g, sets[:1], nil)) != 0 || len(Of(g, append(sets, nil), nil)) != 0 || len(Of(g, nil, nil)) != 0 {
		t.Error("another number of sets")
	}
	if got := Of(g, sets, nil); !slices.Equal(got, []string{""}) {
		t.Errorf("%q", got)
	}
	if got := Of(g, [][]string{nil, {"x"}}, []int{0, 2}); len(got) != 0 {
		t.Errorf("%q", got)
	}
	if got := Of(g, [][]string{{"xyz", "b", "b"}, nil}, []int{2}); !slices.Equal(got, []string{"b", "xy"}) {
		t.Errorf("%q", got)
	}
	if got := Of(g, sets, slices.Repeat([]int{1}, 50)); !slices.Equal(got, []string{"\x01\x01"}) {
		t.Errorf("%q", got)
	}
}

func TestLargeGrammar(t *testing.T) {
	g := api.Grammar{Terms: api.MaxTerms, Nons: api.MaxNons, K: api.MaxK}
	for n := range api.MaxNons {
		for i := range 4 {
			right := []int{}
			for j := range api.MaxRight {
				right = append(right, (n*7+i*5+j*3)%(api.MaxTerms+api.MaxNons))
			}
			g.Prods = append(g.Prods, sample.Prod(n, right[:2*i]...))
		}
	}
	for n, l := range Sets(g) {
		if len(l) == 0 || len(l) > 585 {
			t.Error(n, len(l))
		}
	}
}

func TestExamples(t *testing.T) {
	g := api.Grammar{Terms: 1, Nons: 1, K: 2, Prods: []api.Prod{sample.Prod(0, 0, 1), sample.Prod(0)}}
	if got := Sets(g); len(got) != 1 || !slices.Equal(got[0], []string{"", "\x00", "\x00\x00"}) {
		t.Errorf("%q", got)
	}
}
