package dfa

import (
	"math/rand"
	"slices"
	"strings"
	"testing"

	"viewport/api"
	"viewport/nfa"
	"viewport/regex"
)

func automaton(t *testing.T, texts ...string) api.Nfa {
	t.Helper()
	var l []api.Regex
	for _, s := range texts {
		r, _, e := regex.Read(s)
		if e != api.OK {
			t.Fatalf("%q: %d", s, e)
		}
		l = append(l, r)
	}
	n, e := nfa.Build(l)
	if e != api.OK {
		t.Fatal(e)
	}
	return n
}

func build(t *testing.T, texts ...string) api.Dfa {
	t.Helper()
	d, e := Build(automaton(t, texts...), api.MaxStates)
	if e != api.OK || Check(d) != api.OK {
		t.Fatalf("Build of %q: %d", texts, e)
	}
	return d
}

// table returns a table without transitions.
func table(rules ...int) api.Dfa {
	return api.Dfa{Next: slices.Repeat([]int{-1}, 256*len(rules)), Rule: rules}
}

func with(d api.Dfa, from int, b byte, to int) api.Dfa {
	d.Next[from*256+int(b)] = to
	return d
}

// randomNfa returns an automaton that no expression needs to have.
func randomNfa(r *rand.Rand) api.Nfa {
	states := 1 + r.Intn(7)
	n := api.Nfa{Class: make([]api.Class, states), Next: make([][]int, states), Rule: make([]int, states)}
	for i := range states {
		n.Rule[i] = r.Intn(5) - 1
		if i > 0 {
			n.Class[i] = api.Class{r.Uint64() & r.Uint64(), r.Uint64() & r.Uint64(), r.Uint64(), 1 << 63}
		}
		for to := 1; to < states; to++ {
			if r.Intn(3) == 0 {
				n.Next[i] = append(n.Next[i], to)
			}
		}
	}
	return n
}

// naive is the construction by the words of the document, byte after byte, with a list of sets.
func naive(n api.Nfa) api.Dfa {
	var d api.Dfa
	sets := [][]int{{0}}
	for i := 0; i < len(sets); i++ {
		d.Rule = append(d.Rule, nfa.Rule(n, sets[i]))
		for b := range 256 {
			to := nfa.Step(n, sets[i], byte(b))
			state := slices.IndexFunc(sets, func(s []int) bool { return slices.Equal(s, to) })
			if len(to) > 0 && state < 0 {
				state = len(sets)
				sets = append(sets, to)
			}
			d.Next = append(d.Next, state)
		}
	}
	return d
}

func TestP4_1Build(t *testing.T) {
	r := rand.New(rand.NewSource(1))
	for range 400 {
		n := randomNfa(r)
		want := naive(n)
		states := len(want.Rule)
		if got, e := Build(n, api.MaxStates); e != api.OK || !Same(got, want) {
			t.Fatalf("Build of %v: %d", n, e)
		}
		if got, e := Build(n, states); e != api.OK || !Same(got, want) {
			t.Fatalf("Build with as many states as are needed: %d", e)
		}
		if got, e := Build(n, states-1); states > 1 && (e != api.ErrFull || !Same(got, api.Dfa{})) {
			t.Fatalf("Build with one state less: %d", e)
		}
	}
}

func TestP4_1BuildErrors(t *testing.T) {
	n := automaton(t, "ab")
	bad := api.Nfa{}
	wide := automaton(t, "(a|b)*a"+strings.Repeat("(a|b)", 9))
	narrow := automaton(t, "(a|b)*a"+strings.Repeat("(a|b)", 7))
	for i, x := range []struct {
		n    api.Nfa
		most int
		want api.Errno
	}{
		{bad, 0, api.ErrArg}, {bad, 5, api.ErrArg},
		{n, 0, api.ErrArg}, {n, -1, api.ErrArg}, {n, api.MaxStates + 1, api.ErrArg}, {n, 1 << 62, api.ErrArg},
		{n, api.MaxStates, api.OK}, {n, 3, api.OK}, {n, 2, api.ErrFull}, {n, 1, api.ErrFull},
		{automaton(t), 1, api.OK},
		{wide, api.MaxStates, api.ErrFull}, {narrow, api.MaxStates, api.OK},
	} {
		d, e := Build(x.n, x.most)
		if e != x.want || (e == api.OK) != (Check(d) == api.OK) || e != api.OK && !Same(d, api.Dfa{}) {
			t.Errorf("%d: %d, not %d", i, e, x.want)
		}
	}
}

func TestP4_1Check(t *testing.T) {
	for i, d := range []api.Dfa{table(-1), table(15), table(make([]int, api.MaxStates)...), with(table(0, 1), 1, 255, 1), with(table(0, 1), 1, 0, 0)} {
		if Check(d) != api.OK {
			t.Errorf("%d: not valid", i)
		}
	}
	short, long := table(0, 0), table(0, 0)
	short.Next = short.Next[:511]
	long.Next = append(long.Next, 0)
	for i, d := range []api.Dfa{{}, table(), table(make([]int, api.MaxStates+1)...), table(16), table(-2), table(0, -2), with(table(0, 1), 1, 255, 2), with(table(0, 1), 0, 0, -2), short, long, {Rule: []int{0}}, {Next: make([]int, 256)}} {
		if Check(d) != api.ErrArg {
			t.Errorf("%d: valid", i)
		}
		if Len(d) != 0 || Step(d, 0, 0) != -1 || Step(d, 0, 'a') != -1 || Rule(d, 0) != -1 || Run(d, "") != -1 || Run(d, "a") != -1 {
			t.Errorf("%d: a table that is not valid does something", i)
		}
	}
}

func TestP4_2(t *testing.T) {
	d := with(with(with(table(-1, 3, 0), 0, 'a', 1), 1, 0, 2), 2, 255, 0)
	if Len(d) != 3 || Len(table(0)) != 1 {
		t.Error(Len(d))
	}
	for _, x := range []struct {
		state int
		b     byte
		want  int
	}{{0, 'a', 1}, {0, 'b', -1}, {1, 0, 2}, {2, 255, 0}, {2, 'a', -1}, {3, 'a', -1}, {-1, 'a', -1}, {-1, 255, -1}, {1 << 62, 0, -1}, {-1 << 63, 0, -1}} {
		if got := Step(d, x.state, x.b); got != x.want {
			t.Errorf("Step of %d, %d: %d", x.state, x.b, got)
		}
	}
	for state, want := range map[int]int{0: -1, 1: 3, 2: 0, 3: -1, -1: -1, 1 << 62: -1} {
		if got := Rule(d, state); got != want {
			t.Errorf("Rule of %d: %d", state, got)
		}
	}
	for s, want := range map[string]int{"": -1, "a": 3, "a\x00": 0, "a\x00\xff": -1, "a\x00\xffa": 3, "b": -1, "ba": -1, "aa\x00": -1} {
		if got := Run(d, s); got != want {
			t.Errorf("Run of %q: %d", s, got)
		}
	}
}

func TestP4_2Same(t *testing.T) {
	a := with(table(0, 1), 0, 'a', 1)
	if !Same(a, with(table(0, 1), 0, 'a', 1)) || !Same(api.Dfa{}, api.Dfa{Next: []int{}, Rule: []int{}}) {
		t.Error("the same")
	}
	for i, b := range []api.Dfa{table(0, 1), with(table(0, 2), 0, 'a', 1), with(table(0, 1), 0, 'b', 1), with(table(0, 1, 1), 0, 'a', 1), {}} {
		if Same(a, b) || Same(b, a) {
			t.Errorf("%d: the same", i)
		}
	}
}

func TestP4_3RunIsThatOfTheNfa(t *testing.T) {
	r := rand.New(rand.NewSource(2))
	check := func(n api.Nfa, s string) {
		d, e := Build(n, api.MaxStates)
		if e != api.OK || Run(d, s) != nfa.Run(n, s) {
			t.Fatalf("Run of %v, %q: %d, not %d", n, s, Run(d, s), nfa.Run(n, s))
		}
	}
	for range 300 {
		n := randomNfa(r)
		for range 10 {
			s := make([]byte, r.Intn(5))
			for i := range s {
				s[i] = byte(r.Intn(256))
			}
			check(n, string(s))
		}
	}
	n := automaton(t, "(a|b)*abb", "a*", "[ab]?c+|", "[^a]+")
	for range 300 {
		s := make([]byte, r.Intn(7))
		for i := range s {
			s[i] = "abcx"[r.Intn(4)]
		}
		check(n, string(s))
	}
}

func TestExamples(t *testing.T) {
	d := build(t, "ab*", "a")
	want := with(with(with(table(-1, 0, 0), 0, 'a', 1), 1, 'b', 2), 2, 'b', 2)
	if !Same(d, want) {
		t.Error(d.Rule)
	}
}
