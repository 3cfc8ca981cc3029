package nfa

import (
	"math/rand"
	"slices"
	"strings"
	"testing"

	"viewport/api"
	"viewport/class"
	"viewport/regex"
)

func read(t *testing.T, texts ...string) []api.Regex {
	t.Helper()
	var l []api.Regex
	for _, s := range texts {
		r, _, e := regex.Read(s)
		if e != api.OK {
			t.Fatalf("%q: %d", s, e)
		}
		l = append(l, r)
	}
	return l
}

func build(t *testing.T, texts ...string) api.Nfa {
	t.Helper()
	n, e := Build(read(t, texts...))
	if e != api.OK || Check(n) != api.OK {
		t.Fatalf("Build of %q: %d", texts, e)
	}
	return n
}

// randomText returns the text of a random expression over abcd.
func randomText(r *rand.Rand, size int) string {
	if size <= 1 {
		return []string{"a", "b", "c", "d", "[ab]", "()", "[]", "."}[r.Intn(8)]
	}
	switch r.Intn(5) {
	case 0:
		return "(" + randomText(r, size/2) + "|" + randomText(r, size/2) + ")"
	case 1:
		return "(" + randomText(r, size-1) + ")" + string("*+?"[r.Intn(3)])
	}
	return randomText(r, size/2) + randomText(r, size-size/2)
}

// sample returns the states of a random match of node i, whose Class nodes are numbered by leaf.
func sample(r *rand.Rand, x api.Regex, i int, leaf []int) []int {
	n := x[i]
	var out []int
	switch n.Kind {
	case api.NodeClass:
		return []int{leaf[i]}
	case api.NodeCat:
		for _, k := range n.Kids {
			out = append(out, sample(r, x, k, leaf)...)
		}
	case api.NodeAlt:
		out = sample(r, x, n.Kids[r.Intn(len(n.Kids))], leaf)
	case api.NodeStar, api.NodePlus, api.NodeMaybe:
		times := r.Intn(4)
		if n.Kind == api.NodePlus {
			times++
		}
		if n.Kind == api.NodeMaybe {
			times = times % 2
		}
		for range times {
			out = append(out, sample(r, x, n.Kids[0], leaf)...)
		}
	}
	return out
}

// number numbers the Class nodes from left to right, the first one 1 more than last.
func number(x api.Regex, i, last int, leaf []int) int {
	if x[i].Kind == api.NodeClass {
		last++
		leaf[i] = last
	}
	for _, k := range x[i].Kids {
		last = number(x, k, last, leaf)
	}
	return last
}

func TestP3_1BuildTable(t *testing.T) {
	a, b, c := class.Of("a"), class.Of("b"), class.Of("c")
	for _, x := range []struct {
		texts []string
		want  api.Nfa
	}{
		{nil, api.Nfa{Class: make([]api.Class, 1), Next: [][]int{{}}, Rule: []int{-1}}},
		{[]string{""}, api.Nfa{Class: make([]api.Class, 1), Next: [][]int{{}}, Rule: []int{0}}},
		{[]string{"a", "", "b*"}, api.Nfa{Class: []api.Class{{}, a, b}, Next: [][]int{{1, 2}, {}, {2}}, Rule: []int{1, 0, 2}}},
		{[]string{"ab*", "a"}, api.Nfa{Class: []api.Class{{}, a, b, a}, Next: [][]int{{1, 3}, {2}, {2}, {}}, Rule: []int{-1, 0, 0, 1}}},
		{[]string{"(ab|c)*"}, api.Nfa{Class: []api.Class{{}, a, b, c}, Next: [][]int{{1, 3}, {2}, {1, 3}, {1, 3}}, Rule: []int{0, -1, 0, 0}}},
		{[]string{"a?b?c?"}, api.Nfa{Class: []api.Class{{}, a, b, c}, Next: [][]int{{1, 2, 3}, {2, 3}, {3}, {}}, Rule: []int{0, 0, 0, 0}}},
		{[]string{"a[]b"}, api.Nfa{Class: []api.Class{{}, a, {}, b}, Next: [][]int{{1}, {2}, {3}, {}}, Rule: []int{-1, -1, -1, 0}}},
		{[]string{"(a?)+b"}, api.Nfa{Class: []api.Class{{}, a, b}, Next: [][]int{{1, 2}, {1, 2}, {}}, Rule: []int{-1, -1, 0}}},
		{[]string{"a()b|"}, api.Nfa{Class: []api.Class{{}, a, b}, Next: [][]int{{1}, {2}, {}}, Rule: []int{0, -1, 0}}},
	} {
		if got := build(t, x.texts...); !Same(got, x.want) {
			t.Errorf("Build of %q: %v", x.texts, got)
		}
	}
}

func TestP3_1BuildSampled(t *testing.T) {
	r := rand.New(rand.NewSource(1))
	for range 300 {
		var texts []string
		for range 1 + r.Intn(3) {
			texts = append(texts, randomText(r, 1+r.Intn(7)))
		}
		l := read(t, texts...)
		n := build(t, texts...)
		next := make([]map[int]bool, len(n.Next))
		for i := range next {
			next[i] = map[int]bool{}
		}
		rules := make([]int, len(n.Next))
		for i := range rules {
			rules[i] = -1
		}
		last := 0
		for rule, x := range l {
			leaf := make([]int, len(x))
			last = number(x, len(x)-1, last, leaf)
			for range 3000 {
				from := 0
				for _, state := range sample(r, x, len(x)-1, leaf) {
					next[from][state] = true
					from = state
				}
				if rules[from] < 0 {
					rules[from] = rule
				}
			}
		}
		for i, row := range n.Next {
			if len(row) != len(next[i]) || slices.ContainsFunc(row, func(s int) bool { return !next[i][s] }) {
				t.Fatalf("%q: successors of %d: %v, not %v", texts, i, row, next[i])
			}
		}
		if !slices.Equal(rules, n.Rule) {
			t.Fatalf("%q: rules %v, not %v", texts, n.Rule, rules)
		}
	}
}

func TestP3_1BuildErrors(t *testing.T) {
	a := read(t, "a")[0]
	bad := api.Regex{{}}
	var many []api.Regex
	for range api.MaxRules {
		many = append(many, a)
	}
	wide := func(leaves int) api.Regex {
		var r api.Regex
		var kids []int
		for i := range leaves {
			r = append(r, api.Node{Kind: api.NodeClass})
			kids = append(kids, i)
		}
		return append(r, api.Node{Kind: api.NodeAlt, Kids: kids})
	}
	for i, x := range []struct {
		l    []api.Regex
		want api.Errno
	}{
		{many, api.OK},
		{append(slices.Clip(many), a), api.ErrLong},
		{append(slices.Clip(many), bad), api.ErrLong},
		{[]api.Regex{a, bad}, api.ErrArg},
		{[]api.Regex{nil}, api.ErrArg},
		{[]api.Regex{wide(511), wide(511), a}, api.OK},
		{[]api.Regex{wide(511), wide(511), a, a}, api.ErrFull},
		{[]api.Regex{wide(511), wide(511), wide(2)}, api.ErrFull},
		{[]api.Regex{wide(511), wide(511), wide(2), bad}, api.ErrArg},
	} {
		n, e := Build(x.l)
		if e != x.want || e == api.OK && Check(n) != api.OK || e != api.OK && !Same(n, api.Nfa{}) {
			t.Errorf("%d: %d, not %d", i, e, x.want)
		}
	}
	if n, _ := Build([]api.Regex{wide(511), wide(511), a}); len(n.Class) != api.MaxNfa {
		t.Error(len(n.Class))
	}
}

func TestP3_1Check(t *testing.T) {
	a := class.Of("a")
	ok := func() api.Nfa {
		return api.Nfa{Class: []api.Class{{}, a, a}, Next: [][]int{{1, 2}, {2}, nil}, Rule: []int{-1, 0, 15}}
	}
	sized := func(n int) api.Nfa {
		return api.Nfa{Class: make([]api.Class, n), Next: make([][]int, n), Rule: make([]int, n)}
	}
	if Check(ok()) != api.OK || Check(sized(1)) != api.OK || Check(sized(api.MaxNfa)) != api.OK {
		t.Error("valid automata")
	}
	for i, spoil := range []func(n *api.Nfa){
		func(n *api.Nfa) { *n = api.Nfa{} },
		func(n *api.Nfa) { *n = sized(api.MaxNfa + 1) },
		func(n *api.Nfa) { n.Class = n.Class[:2] },
		func(n *api.Nfa) { n.Next = n.Next[:2] },
		func(n *api.Nfa) { n.Rule = n.Rule[:2] },
		func(n *api.Nfa) { n.Class[0] = a },
		func(n *api.Nfa) { n.Next[0][0] = 0 },
		func(n *api.Nfa) { n.Next[0][0] = -1 },
		func(n *api.Nfa) { n.Next[0][1] = 1 },
		func(n *api.Nfa) { n.Next[0] = []int{2, 1} },
		func(n *api.Nfa) { n.Next[2] = []int{3} },
		func(n *api.Nfa) { n.Rule[1] = -2 },
		func(n *api.Nfa) { n.Rule[2] = 16 },
	} {
		n := ok()
		spoil(&n)
		if Check(n) != api.ErrArg {
			t.Errorf("%d: valid", i)
		}
		if len(Step(n, []int{0, 1, 2}, 'a')) != 0 || Rule(n, []int{0, 1, 2}) != -1 || Run(n, "a") != -1 || Run(n, "") != -1 {
			t.Errorf("%d: an automaton that is not valid does something", i)
		}
	}
}

func TestP3_2Step(t *testing.T) {
	n := build(t, "(ab|ac)*", "a[bc]d?", "e")
	// The states: 1 a, 2 b, 3 a, 4 c; 5 a, 6 [bc], 7 d; 8 e.
	for _, x := range []struct {
		set  []int
		b    byte
		want []int
	}{
		{[]int{0}, 'a', []int{1, 3, 5}},
		{[]int{0}, 'e', []int{8}},
		{[]int{0}, 'b', nil},
		{nil, 'a', nil},
		{[]int{1, 3, 5}, 'b', []int{2, 6}},
		{[]int{5, 3, 1, 3}, 'c', []int{4, 6}},
		{[]int{-1, 9, 1 << 40, -1 << 40, 6}, 'd', []int{7}},
		{[]int{2, 4, 0}, 'a', []int{1, 3, 5}},
		{[]int{4, 2}, 'a', []int{1, 3}},
	} {
		before := slices.Clone(x.set)
		if got := Step(n, x.set, x.b); !slices.Equal(got, x.want) {
			t.Errorf("Step of %v, %c: %v, not %v", x.set, x.b, got, x.want)
		}
		if !slices.Equal(before, x.set) {
			t.Error("Step changed the set")
		}
	}
	for _, x := range []struct {
		set  []int
		want int
	}{{nil, -1}, {[]int{0}, 0}, {[]int{1}, -1}, {[]int{6, 4}, 0}, {[]int{4, 6}, 0}, {[]int{8, 6}, 1}, {[]int{8}, 2}, {[]int{-1, 9, 1 << 40}, -1}, {[]int{1, 9, 8, -5, 3}, 2}, {[]int{8, 7, 1}, 1}} {
		if got := Rule(n, x.set); got != x.want {
			t.Errorf("Rule of %v: %d, not %d", x.set, got, x.want)
		}
	}
}

func TestP3_2Same(t *testing.T) {
	n := build(t, "ab", "c")
	if !Same(n, build(t, "ab", "c")) || !Same(api.Nfa{}, api.Nfa{Next: [][]int{}}) {
		t.Error("the same")
	}
	if !Same(api.Nfa{Next: [][]int{nil}}, api.Nfa{Next: [][]int{{}}}) {
		t.Error("a nil row and an empty one are the same")
	}
	for i, spoil := range []func(n *api.Nfa){
		func(n *api.Nfa) { n.Class[1] = class.Of("x") },
		func(n *api.Nfa) { n.Next[0] = []int{1} },
		func(n *api.Nfa) { n.Next[0] = []int{1, 2} },
		func(n *api.Nfa) { n.Rule[3] = 0 },
		func(n *api.Nfa) { n.Rule = n.Rule[:3] },
		func(n *api.Nfa) { n.Next = n.Next[:3] },
		func(n *api.Nfa) { n.Class = n.Class[:3] },
	} {
		m := build(t, "ab", "c")
		spoil(&m)
		if Same(n, m) || Same(m, n) {
			t.Errorf("%d: the same", i)
		}
	}
}

func TestP3_3RunIsTheFirstMatch(t *testing.T) {
	r := rand.New(rand.NewSource(2))
	for range 800 {
		var texts []string
		for range r.Intn(4) {
			texts = append(texts, randomText(r, 1+r.Intn(8)))
		}
		l := read(t, texts...)
		n := build(t, texts...)
		for range 12 {
			s := make([]byte, r.Intn(6))
			for i := range s {
				s[i] = "abcd\n"[r.Intn(5)]
			}
			want := slices.IndexFunc(l, func(x api.Regex) bool { return regex.Matches(x, string(s)) })
			if got := Run(n, string(s)); got != want {
				t.Fatalf("Run of %q, %q: %d, not %d", texts, s, got, want)
			}
		}
	}
	if n := build(t, "(a|b)*c"); Run(n, strings.Repeat("ab", 20000)+"c") != 0 || Run(n, strings.Repeat("ab", 20000)) != -1 {
		t.Error("a long string")
	}
}

func TestRowsShareNoMemory(t *testing.T) {
	n := build(t, "(a|b|c)*", "[x]y")
	for i, row := range n.Next {
		for j := range row[:cap(row)] {
			row[:cap(row)][j] = -9
		}
		for k, other := range n.Next {
			if k > i && slices.Contains(other[:cap(other)], -9) {
				t.Fatal("rows share memory")
			}
		}
	}
}

func TestExamples(t *testing.T) {
	n := build(t, "ab*", "a")
	want := [][]int{{1, 3}, {2}, {2}, {}}
	if !slices.EqualFunc(n.Next, want, slices.Equal[[]int]) || !slices.Equal(n.Rule, []int{-1, 0, 0, 1}) {
		t.Error(n.Next, n.Rule)
	}
}
