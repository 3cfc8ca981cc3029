package lexer

import (
	"math/rand"
	"slices"
	"strconv"
	"strings"
	"testing"

	"viewport/api"
	"viewport/dfa"
	"viewport/least"
	"viewport/munch"
)

func build(t *testing.T, rules ...api.Rule) api.Lexer {
	t.Helper()
	l, at, e := Build(rules)
	if e != api.OK || at != len(rules) || Check(l) != api.OK {
		t.Fatalf("Build of %v: %d, %d", rules, at, e)
	}
	return l
}

func words() []api.Rule {
	return []api.Rule{{Name: "word", Regex: "[a-z]+"}, {Name: "gap", Regex: "[ ]+", Trivia: true}}
}

// samples have trivia before, after and between tokens, trivia that look far ahead, and none.
func samples(t *testing.T) []api.Lexer {
	return []api.Lexer{
		build(t, words()...),
		build(t, api.Rule{Name: "gap", Regex: " |%.*\n", Trivia: true}, api.Rule{Name: "a", Regex: "a"}, api.Rule{Name: "b", Regex: "b+|ba*c"}),
		build(t, api.Rule{Name: "a", Regex: "a(bcb)?"}, api.Rule{Name: "b", Regex: "[bc]"}),
		build(t, api.Rule{Name: "gap", Regex: "b+( a)?", Trivia: true}),
		build(t, api.Rule{Name: "none", Regex: "[]"}),
	}
}

func randomText(r *rand.Rand) string {
	s := make([]byte, r.Intn(12))
	for i := range s {
		s[i] = "abc 1%\n"[r.Intn(7)]
	}
	return string(s)
}

// naive finds the token by munch.Next alone.
func naive(l api.Lexer, text string, at int) api.Token {
	t := api.Token{From: at}
	p := at
	for {
		x, ok := munch.Next(l.Dfa, text, p)
		if !ok {
			t.Kind, t.At, t.To = api.KindEnd, len(text), len(text)
			break
		}
		t.Ext = max(t.Ext, x.Ext)
		if x.Rule == -1 {
			t.Kind, t.At, t.To = api.KindBad, x.From, x.To
			break
		}
		if l.Kind[x.Rule] != -1 {
			t.Kind, t.At, t.To = l.Kind[x.Rule], x.From, x.To
			break
		}
		p = x.To
	}
	t.Ext = max(t.Ext, t.To+1)
	return t
}

func TestP7_1Build(t *testing.T) {
	l := build(t, api.Rule{Name: "x", Regex: "b", Trivia: true}, api.Rule{Name: "y", Regex: "ab*"}, api.Rule{Name: "z", Regex: "c", Trivia: true}, api.Rule{Name: "w", Regex: "a|d"})
	if l.Kinds != 2 || !slices.Equal(l.Kind, []int{-1, 0, -1, 1}) {
		t.Error(l.Kinds, l.Kind)
	}
	for s, want := range map[string]int{"": -1, "b": 0, "a": 1, "abb": 1, "c": 2, "d": 3, "e": -1, "bb": -1} {
		if got := dfa.Run(l.Dfa, s); got != want {
			t.Errorf("Run of %q: %d, not %d", s, got, want)
		}
	}
	if m, _ := least.Least(l.Dfa); !dfa.Same(m, l.Dfa) {
		t.Error("the table is not minimized")
	}
	// Equivalent states have to be one: a dfa of a(b|c)d|e(b|c)d has more.
	if l := build(t, api.Rule{Name: "x", Regex: "a(bd|cd)|e(bd|cd)"}); len(l.Dfa.Rule) != 4 {
		t.Error(len(l.Dfa.Rule))
	}
}

func TestP7_1BuildErrors(t *testing.T) {
	ok := api.Rule{Name: "a", Regex: "a"}
	var many []api.Rule
	for i := range api.MaxRules {
		many = append(many, api.Rule{Name: strconv.Itoa(i), Regex: "a"})
	}
	// An expression of 128 classes; eight of them are too many states for an automaton.
	wide := strings.Repeat("ab", 64)
	var full []api.Rule
	for i := range 9 {
		full = append(full, api.Rule{Name: strconv.Itoa(i), Regex: wide})
	}
	blow := api.Rule{Name: "b", Regex: "(a|b)*a" + strings.Repeat("(a|b)", 10)}
	for i, x := range []struct {
		rules []api.Rule
		at    int
		want  api.Errno
	}{
		{nil, 0, api.ErrArg},
		{many, 16, api.OK},
		{append(slices.Clip(many), api.Rule{}), 0, api.ErrLong},
		{[]api.Rule{ok, {Regex: "a"}}, 1, api.ErrArg},
		{[]api.Rule{ok, {Regex: "("}}, 1, api.ErrArg},
		{[]api.Rule{{Regex: ""}}, 0, api.ErrArg},
		{[]api.Rule{ok, {Name: "b", Regex: "b"}, {Name: "a", Regex: "("}}, 2, api.ErrThere},
		{[]api.Rule{ok, {Name: "b", Regex: "a)"}}, 1, api.ErrText},
		{[]api.Rule{{Name: "b", Regex: "a("}, {}}, 0, api.ErrMore},
		{[]api.Rule{ok, {Name: "b", Regex: strings.Repeat("a", 257)}}, 1, api.ErrLong},
		{[]api.Rule{ok, {Name: "b", Regex: ""}}, 1, api.ErrBad},
		{[]api.Rule{ok, {Name: "b", Regex: "a*"}, {}}, 1, api.ErrBad},
		{[]api.Rule{ok, {Name: "b", Regex: "b*", Trivia: true}}, 1, api.ErrBad},
		{full[:7], 7, api.OK},
		{full, 9, api.ErrFull},
		{append(slices.Clip(full), api.Rule{Name: "z"}), 9, api.ErrBad},
		{[]api.Rule{ok, blow}, 2, api.ErrFull},
		{[]api.Rule{blow, ok, {Name: "c", Regex: "?"}}, 2, api.ErrText},
	} {
		l, at, e := Build(x.rules)
		if e != x.want || at != x.at || (e == api.OK) != (Check(l) == api.OK) || e != api.OK && !Same(l, api.Lexer{}) {
			t.Errorf("%d: %d, %d, not %d, %d", i, at, e, x.at, x.want)
		}
	}
}

func TestP7_1Check(t *testing.T) {
	ok := func() api.Lexer { return build(t, append(words(), api.Rule{Name: "n", Regex: "[0-9]"})...) }
	if Check(ok()) != api.OK {
		t.Error("not valid")
	}
	for i, spoil := range []struct {
		f    func(l *api.Lexer)
		want api.Errno
	}{
		{func(l *api.Lexer) { *l = api.Lexer{} }, api.ErrArg},
		{func(l *api.Lexer) { l.Dfa.Next = l.Dfa.Next[1:] }, api.ErrArg},
		{func(l *api.Lexer) { l.Kinds = -1 }, api.ErrArg},
		{func(l *api.Lexer) { l.Kinds = 1 }, api.ErrArg},
		{func(l *api.Lexer) { l.Kinds = 16 }, api.OK},
		{func(l *api.Lexer) { l.Kinds = 17 }, api.ErrArg},
		{func(l *api.Lexer) { l.Kind = l.Kind[:2] }, api.ErrArg},
		{func(l *api.Lexer) { l.Kind = append(l.Kind, 1, -1) }, api.OK},
		{func(l *api.Lexer) { l.Kind = append(l.Kind, 2) }, api.ErrArg},
		{func(l *api.Lexer) { l.Kind[0] = -2 }, api.ErrArg},
		{func(l *api.Lexer) { l.Kind[0] = 2 }, api.ErrArg},
		{func(l *api.Lexer) { l.Kind = []int{-1, -1, -1}; l.Kinds = 0 }, api.OK},
	} {
		l := ok()
		spoil.f(&l)
		if Check(l) != spoil.want {
			t.Errorf("%d: Check: %d", i, Check(l))
		}
		if spoil.want == api.OK {
			continue
		}
		tok, e := Next(l, "a", 0)
		all, e2 := All(l, "a")
		row, ext, e3 := Window(l, "a", 0, 1)
		if tok != (api.Token{}) || e != spoil.want || len(all) != 0 || e2 != spoil.want || row != "" || ext != 0 || e3 != spoil.want || len(slices.Collect(Each(l, "a", 0))) != 0 {
			t.Errorf("%d: a lexer that is not valid does something", i)
		}
	}
	a := ok()
	for i, spoil := range []func(l *api.Lexer){
		func(l *api.Lexer) { l.Kinds = 3 },
		func(l *api.Lexer) { l.Kind[0] = 1 },
		func(l *api.Lexer) { l.Kind = l.Kind[:2] },
		func(l *api.Lexer) { l.Dfa.Rule[0] = 1 },
		func(l *api.Lexer) { l.Dfa.Next['a'] = -1 },
	} {
		b := ok()
		spoil(&b)
		if Same(a, b) || Same(b, a) {
			t.Errorf("%d: the same", i)
		}
	}
	if !Same(a, ok()) || !Same(api.Lexer{}, api.Lexer{Kind: []int{}}) {
		t.Error("not the same")
	}
}

func TestP7_2(t *testing.T) {
	r := rand.New(rand.NewSource(1))
	for _, l := range samples(t) {
		for range 200 {
			text := randomText(r)
			for at := -1; at <= len(text)+1; at++ {
				got, e := Next(l, text, at)
				if at < 0 || at > len(text) {
					row, ext, e2 := Window(l, text, at, 0)
					if e != api.ErrArg || got != (api.Token{}) || row != "" || ext != 0 || e2 != api.ErrArg || len(slices.Collect(Each(l, text, at))) != 0 {
						t.Fatalf("%q at %d: %v, %d", text, at, got, e)
					}
					continue
				}
				if want := naive(l, text, at); e != api.OK || got != want {
					t.Fatalf("Next of %q at %d: %v, %d, not %v", text, at, got, e, want)
				}
				want := []api.Token{naive(l, text, at)}
				for want[len(want)-1].Kind != api.KindEnd {
					want = append(want, naive(l, text, want[len(want)-1].To))
				}
				if got := slices.Collect(Each(l, text, at)); !slices.Equal(got, want) {
					t.Fatalf("Each of %q at %d: %v, not %v", text, at, got, want)
				}
				if got, e := All(l, text); at == 0 && (e != api.OK || !slices.Equal(got, want)) {
					t.Fatalf("All of %q: %v, %d, not %v", text, got, e, want)
				}
				for k := -1; k < 5; k++ {
					row, ext := "", at
					for i := range min(max(k, 0), len(want)) {
						row += string([]byte{byte(want[i].Kind)})
						ext = max(ext, want[i].Ext)
					}
					row = strings.NewReplacer("\xff", "\xfe", "\xfe", "\xff").Replace(row)
					if got, x, e := Window(l, text, at, k); e != api.OK || got != row || x != ext {
						t.Fatalf("Window of %q at %d, %d: %q, %d, %d, not %q, %d", text, at, k, got, x, e, row, ext)
					}
				}
			}
		}
	}
}

func TestP7_2Table(t *testing.T) {
	l := build(t, words()...)
	if got, e := Next(l, "", 0); e != api.OK || got != (api.Token{Kind: api.KindEnd, Ext: 1}) {
		t.Error(got, e)
	}
	if got, e := Next(l, "a  ", 1); e != api.OK || got != (api.Token{Kind: api.KindEnd, From: 1, At: 3, To: 3, Ext: 4}) {
		t.Error(got, e)
	}
	if got, e := Next(l, " 1", 0); e != api.OK || got != (api.Token{Kind: api.KindBad, From: 0, At: 1, To: 2, Ext: 3}) {
		t.Error(got, e)
	}
	if row, ext, e := Window(l, "a 1", 0, 1<<40); row != "\x00\xfe\xff" || ext != 4 || e != api.OK {
		t.Errorf("%q, %d, %d", row, ext, e)
	}
	if row, ext, e := Window(l, "a b", 3, 2); row != "\xff" || ext != 4 || e != api.OK {
		t.Errorf("%q, %d, %d", row, ext, e)
	}
	// A token is as long as Ext says only if nothing before it looked further ahead.
	far := build(t, api.Rule{Name: "gap", Regex: "b(aaac)?", Trivia: true}, api.Rule{Name: "a", Regex: "a"})
	if got, _ := Next(far, "baaaa", 0); got != (api.Token{Kind: 0, From: 0, At: 1, To: 2, Ext: 5}) {
		t.Error(got)
	}
}

func TestP7_2EachCanBeLeft(t *testing.T) {
	l := build(t, words()...)
	seq := Each(l, "a b c", 0)
	n := 0
	for tok := range seq {
		n++
		if tok.To == 3 {
			break
		}
	}
	// The caller's slices may change after the call, and a sequence can be ranged over twice, also inside itself.
	for i := range l.Dfa.Next {
		l.Dfa.Next[i] = -1
	}
	l.Kind[0] = -1
	for i := range l.Dfa.Rule {
		l.Dfa.Rule[i] = 1
	}
	inner := 0
	for range seq {
		for range seq {
			inner++
		}
	}
	if n != 2 || inner != 16 {
		t.Error(n, inner)
	}
}

func TestP7_3(t *testing.T) {
	r := rand.New(rand.NewSource(2))
	for _, l := range samples(t) {
		for range 300 {
			text := randomText(r)
			all, _ := All(l, text)
			at := 0
			for _, tok := range all {
				if tok.From != at || tok.At < tok.From || tok.To < tok.At || tok.Ext <= tok.To {
					t.Fatal(tok)
				}
				at = tok.To
				other := randomText(r)
				if tok.Ext <= len(text) {
					other = text[:tok.Ext] + other
				} else {
					other = text
				}
				if got, _ := Next(l, other, tok.From); got != tok {
					t.Fatalf("%q, %q: %v, not %v", text, other, got, tok)
				}
				before := randomText(r)
				got, _ := Next(l, before+text[tok.From:], len(before))
				by := len(before) - tok.From
				if got != (api.Token{Kind: tok.Kind, From: tok.From + by, At: tok.At + by, To: tok.To + by, Ext: tok.Ext + by}) {
					t.Fatalf("%q: %v, not %v", text, got, tok)
				}
			}
			if at != len(text) || all[len(all)-1].Kind != api.KindEnd {
				t.Fatal("the tokens are not the text")
			}
		}
	}
}

func TestArgumentsAreLeft(t *testing.T) {
	l := build(t, words()...)
	before := build(t, words()...)
	All(l, "a b 1")
	Window(l, "a b", 0, 2)
	if !Same(l, before) {
		t.Error("a lexer has changed")
	}
}

func TestExamples(t *testing.T) {
	want := []api.Token{{Kind: 0, From: 0, At: 0, To: 1, Ext: 2}, {Kind: 0, From: 1, At: 2, To: 3, Ext: 4}, {Kind: api.KindEnd, From: 3, At: 3, To: 3, Ext: 4}}
	if got, e := All(build(t, words()...), "a b"); e != api.OK || !slices.Equal(got, want) {
		t.Error(got, e)
	}
}
