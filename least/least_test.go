package least

import (
	"math"
	"math/rand"
	"slices"
	"strings"
	"testing"

	"viewport/api"
	"viewport/dfa"
	"viewport/nfa"
	"viewport/regex"
)

func build(t *testing.T, texts ...string) api.Dfa {
	t.Helper()
	var l []api.Regex
	for _, s := range texts {
		r, _, e := regex.Read(s)
		if e != api.OK {
			t.Fatalf("%q: %d", s, e)
		}
		l = append(l, r)
	}
	n, _ := nfa.Build(l)
	d, e := dfa.Build(n, api.MaxStates)
	if e != api.OK {
		t.Fatal(e)
	}
	return d
}

func table(rules ...int) api.Dfa {
	return api.Dfa{Next: slices.Repeat([]int{-1}, 256*len(rules)), Rule: rules}
}

func with(d api.Dfa, from int, b byte, to int) api.Dfa {
	d.Next[from*256+int(b)] = to
	return d
}

// letters are the bytes that random tables read, in ascending order.
const letters = "\x00a\xff"

func randomTable(r *rand.Rand) api.Dfa {
	rules := make([]int, 1+r.Intn(7))
	for i := range rules {
		rules[i] = max(-1, r.Intn(6)-3)
	}
	d := table(rules...)
	for state := range rules {
		for i := range letters {
			d = with(d, state, letters[i], r.Intn(len(rules)+1)-1)
		}
	}
	return d
}

// shuffled returns a table with the same language: states but 0 are renumbered, some are doubled.
func shuffled(r *rand.Rand, d api.Dfa) api.Dfa {
	old := r.Perm(len(d.Rule))
	zero := slices.Index(old, 0)
	old[0], old[zero] = old[zero], old[0]
	for range r.Intn(3) {
		old = append(old, r.Intn(len(d.Rule)))
	}
	out := table(make([]int, len(old))...)
	for i, state := range old {
		out.Rule[i] = d.Rule[state]
		for b := range 256 {
			to := d.Next[state*256+b]
			if to < 0 {
				continue
			}
			var same []int
			for j, s := range old {
				if s == to {
					same = append(same, j)
				}
			}
			out = with(out, i, byte(b), same[r.Intn(len(same))])
		}
	}
	return out
}

// words returns all strings of at most n letters, the shorter ones first, and of the same length in order.
func words(n int) []string {
	l := []string{""}
	last := l
	for range n {
		var next []string
		for _, s := range last {
			for i := range letters {
				next = append(next, s+letters[i:i+1])
			}
		}
		l = append(l, next...)
		last = next
	}
	return l
}

// rules tells a state's language by what it returns for all strings that are long enough to tell apart states of two random tables.
func rules(d api.Dfa, state int, l []string) string {
	var out strings.Builder
	for _, s := range l {
		at := state
		for i := 0; i < len(s) && at >= 0; i++ {
			at = d.Next[at*256+int(s[i])]
		}
		rule := -1
		if at >= 0 {
			rule = d.Rule[at]
		}
		out.WriteByte(byte('0' + rule))
	}
	return out.String()
}

// naive builds the minimized table from the languages of the states.
func naive(d api.Dfa, l []string) api.Dfa {
	none := strings.Repeat("/", len(l))
	var out api.Dfa
	names := []string{rules(d, 0, l)}
	found := []int{0}
	for i := 0; i < len(found); i++ {
		out.Rule = append(out.Rule, d.Rule[found[i]])
		for b := range 256 {
			to := d.Next[found[i]*256+b]
			if to < 0 || rules(d, to, l) == none {
				out.Next = append(out.Next, -1)
				continue
			}
			name := rules(d, to, l)
			if !slices.Contains(names, name) {
				names = append(names, name)
				found = append(found, to)
			}
			out.Next = append(out.Next, slices.Index(names, name))
		}
	}
	return out
}

func TestP5_1Least(t *testing.T) {
	r := rand.New(rand.NewSource(1))
	l := words(6)
	for range 250 {
		d := randomTable(r)
		got, e := Least(d)
		if want := naive(d, l); e != api.OK || !dfa.Same(got, want) {
			t.Fatalf("Least of %v: rules %v, not %v", d.Rule, got.Rule, want.Rule)
		}
		live := Live(d)
		for state := range d.Rule {
			if live[state] != strings.ContainsAny(rules(d, state, l), "0123456789") {
				t.Fatalf("Live of %d: %v", state, live[state])
			}
		}
	}
}

func TestP5_1LeastTable(t *testing.T) {
	for i, x := range []struct{ d, want api.Dfa }{
		{table(-1), table(-1)},
		{table(3), table(3)},
		{table(-1, 2), table(-1)},
		{with(table(-1, -1), 0, 'a', 1), table(-1)},
		{with(with(table(-1, -1), 0, 'a', 1), 1, 'b', 0), table(-1)},
		{with(with(table(-1, 0, 1), 0, 'b', 1), 0, 'a', 2), with(with(table(-1, 1, 0), 0, 'b', 2), 0, 'a', 1)},
		{with(with(table(-1, 4, 4), 0, 'b', 1), 0, 'a', 2), with(with(table(-1, 4), 0, 'b', 1), 0, 'a', 1)},
		{with(with(table(0, 0), 0, 'a', 1), 1, 'a', 0), with(table(0), 0, 'a', 0)},
		// Nothing leads on from the last state, which therefore differs from the first one.
		{with(with(table(0, -1, 0), 0, 'a', 1), 1, 'a', 2), with(with(table(0, -1, 0), 0, 'a', 1), 1, 'a', 2)},
	} {
		if got, e := Least(x.d); e != api.OK || !dfa.Same(got, x.want) {
			t.Errorf("%d: rules %v", i, got.Rule)
		}
	}
	for i, bad := range []api.Dfa{{}, table(), table(16), with(table(0), 0, 0, 1)} {
		d, e := Least(bad)
		if e != api.ErrArg || !dfa.Same(d, api.Dfa{}) || len(Live(bad)) != 0 {
			t.Errorf("%d: a table that is not valid", i)
		}
	}
	long := table(make([]int, api.MaxStates)...)
	for i := range long.Rule {
		long.Rule[i] = -1
		if i > 0 {
			long = with(long, i-1, 'a', i)
		}
	}
	long.Rule[api.MaxStates-1] = 0
	if d, e := Least(long); e != api.OK || !dfa.Same(d, long) {
		t.Error("a chain of all states")
	}
	before := slices.Clone(long.Next)
	if Least(long); !slices.Equal(before, long.Next) {
		t.Error("Least changed its argument")
	}
}

func TestP5_2(t *testing.T) {
	r := rand.New(rand.NewSource(2))
	l := words(6)
	for range 400 {
		a, b := randomTable(r), randomTable(r)
		if r.Intn(3) == 0 {
			b = shuffled(r, a)
		}
		at := slices.IndexFunc(l, func(s string) bool { return dfa.Run(a, s) != dfa.Run(b, s) })
		want := ""
		if at >= 0 {
			want = l[at]
		}
		if s, is := Witness(a, b); s != want || is != (at >= 0) {
			t.Fatalf("Witness: %q, %v, not %q", s, is, want)
		}
		if Equal(a, b) != (at < 0) {
			t.Fatalf("Equal: %v", at >= 0)
		}
		for rule := -2; rule <= 4; rule++ {
			at := slices.IndexFunc(l, func(s string) bool { return rule >= 0 && dfa.Run(a, s) == rule })
			want := ""
			if at >= 0 {
				want = l[at]
			}
			if s, is := Short(a, rule); s != want || is != (at >= 0) {
				t.Fatalf("Short of rule %d: %q, %v, not %q", rule, s, is, want)
			}
		}
	}
}

func TestP5_2Table(t *testing.T) {
	d := with(with(table(0, -1), 0, 'a', 1), 1, 'b', 0)
	all := table(0)
	for b := range 256 {
		all = with(all, 0, byte(b), 0)
	}
	// In all of these but the last one some string has a Run of -1, which is not a rule.
	for i, x := range []api.Dfa{d, table(-1), table(0), build(t, "[ab]*"), all} {
		for _, rule := range []int{-1, -2, math.MinInt, 1, 16, 1 << 40, math.MaxInt} {
			if s, is := Short(x, rule); s != "" || is {
				t.Errorf("%d: Short of rule %d: %q, %v", i, rule, s, is)
			}
		}
	}
	for _, x := range []struct {
		d    api.Dfa
		rule int
		want string
	}{{d, 0, ""}, {all, 0, ""}, {table(15), 15, ""}, {with(table(-1, 0), 0, 'b', 1), 0, "b"}} {
		if s, is := Short(x.d, x.rule); s != x.want || !is {
			t.Errorf("Short of rule %d: %q, %v, not %q", x.rule, s, is, x.want)
		}
	}
	if s, is := Witness(d, all); s != "\x00" || !is {
		t.Errorf("%q, %v", s, is)
	}
	if s, is := Witness(table(0), table(1)); s != "" || !is {
		t.Errorf("%q, %v", s, is)
	}
	if s, is := Witness(with(table(0), 0, 0xff, 0), table(0)); s != "\xff" || !is {
		t.Errorf("%q, %v", s, is)
	}
	bad := api.Dfa{}
	if Equal(bad, bad) || Equal(d, bad) || Equal(bad, d) {
		t.Error("tables that are not valid are not equal")
	}
	for _, x := range [][2]api.Dfa{{bad, d}, {d, bad}, {bad, bad}} {
		if s, is := Witness(x[0], x[1]); s != "" || is {
			t.Error(s, is)
		}
	}
	for _, rule := range []int{-1, 0} {
		if s, is := Short(bad, rule); s != "" || is {
			t.Error(s, is)
		}
	}
	if s, is := Short(build(t, "[ab]*c", "b[ab]*d"), 1); s != "bd" || !is {
		t.Errorf("%q, %v", s, is)
	}
}

func TestP5_3(t *testing.T) {
	r := rand.New(rand.NewSource(3))
	for range 300 {
		a := randomTable(r)
		b := randomTable(r)
		if r.Intn(2) == 0 {
			b = shuffled(r, a)
		}
		x, _ := Least(a)
		y, _ := Least(b)
		if Equal(a, b) != dfa.Same(x, y) {
			t.Fatalf("Equal is %v", Equal(a, b))
		}
		if z, _ := Least(x); !dfa.Same(x, z) || !Equal(a, x) {
			t.Fatal("Least of Least")
		}
	}
}

func TestExamples(t *testing.T) {
	x, _ := Least(build(t, "(a|b)*"))
	y, _ := Least(build(t, "[ab]*"))
	if !dfa.Same(x, y) || len(x.Rule) != 1 {
		t.Error(x.Rule, y.Rule)
	}
	if s, is := Witness(build(t, "a*"), build(t, "a+")); s != "" || !is {
		t.Errorf("%q, %v", s, is)
	}
}
