package munch

import (
	"math/rand"
	"slices"
	"strings"
	"testing"

	"viewport/api"
	"viewport/dfa"
	"viewport/nfa"
	"viewport/regex"
)

func build(t *testing.T, texts ...string) api.Dfa {
	t.Helper()
	var l []api.Regex
	for _, s := range texts {
		r, _, e := regex.Read(s)
		if e != api.OK {
			t.Fatalf("%q: %d", s, e)
		}
		l = append(l, r)
	}
	n, _ := nfa.Build(l)
	d, e := dfa.Build(n, api.MaxStates)
	if e != api.OK {
		t.Fatal(e)
	}
	return d
}

// samples are tables whose scans look far ahead, are nullable, have no rule, or states from which nothing leads to one, or lead back to the first state.
func samples(t *testing.T) []api.Dfa {
	dead := api.Dfa{Next: slices.Repeat([]int{-1}, 512), Rule: []int{-1, -1}}
	dead.Next['a'], dead.Next[256+'b'] = 1, 1
	// A minimized table may lead back to its first state.
	loop := api.Dfa{Next: slices.Repeat([]int{-1}, 512), Rule: []int{-1, 3}}
	loop.Next['a'], loop.Next[256+'b'] = 1, 0
	return []api.Dfa{
		build(t, "ab*", "[0-9]+"),
		build(t, "a", "(ab)*c", "b"),
		build(t, "a*"),
		build(t, "a|ab|abc|abcabcd", "c.*b"),
		build(t),
		dead,
		loop,
		{Next: slices.Repeat([]int{0}, 256), Rule: []int{2}},
		build(t, "a", "a|b", "ab"),
	}
}

func randomText(r *rand.Rand) string {
	s := make([]byte, r.Intn(12))
	for i := range s {
		s[i] = "abc7\n"[r.Intn(5)]
	}
	return string(s)
}

// naive finds the longest prefix by running the table over all of them; the scan ends as soon as Step leads nowhere.
func naive(d api.Dfa, text string, at int) api.Lexeme {
	l := api.Lexeme{Rule: -1, From: at, To: at + 1}
	state := 0
	for i := at; ; i++ {
		l.Ext = i + 1
		if i == len(text) {
			return l
		}
		if state = dfa.Step(d, state, text[i]); state < 0 {
			return l
		}
		if rule := dfa.Rule(d, state); rule >= 0 {
			l.Rule, l.To = rule, i+1
		}
	}
}

func TestP6_1(t *testing.T) {
	r := rand.New(rand.NewSource(1))
	for _, d := range samples(t) {
		for range 150 {
			text := randomText(r)
			for at := -2; at < len(text)+3; at++ {
				got, ok := Next(d, text, at)
				if at < 0 || at >= len(text) {
					if ok || got != (api.Lexeme{}) {
						t.Fatalf("Next of %q at %d: %v, %v", text, at, got, ok)
					}
					continue
				}
				if want := naive(d, text, at); !ok || got != want {
					t.Fatalf("Next of %q at %d: %v, %v, not %v", text, at, got, ok, want)
				}
			}
			var want []api.Lexeme
			for at := 0; at < len(text); {
				l := naive(d, text, at)
				want = append(want, l)
				at = l.To
			}
			if got := All(d, text); !slices.Equal(got, want) {
				t.Fatalf("All of %q: %v, not %v", text, got, want)
			}
		}
	}
	for _, bad := range []api.Dfa{{}, {Next: make([]int, 256), Rule: []int{16}}, {Next: slices.Repeat([]int{5}, 256), Rule: []int{0}}} {
		if l, ok := Next(bad, "abc", 0); ok || l != (api.Lexeme{}) || len(All(bad, "abc")) != 0 {
			t.Error(l, ok)
		}
	}
	d := samples(t)[0]
	if len(All(d, "")) != 0 {
		t.Error("lexemes of the empty text")
	}
	if l, ok := Next(d, "abc", 1<<62); ok || l != (api.Lexeme{}) {
		t.Error(l, ok)
	}
}

func TestP6_2Scanner(t *testing.T) {
	r := rand.New(rand.NewSource(2))
	for _, d := range samples(t) {
		s, e := New(d)
		if e != api.OK {
			t.Fatal(e)
		}
		for range 80 {
			text := randomText(r)
			for at := range len(text) {
				want, _ := Next(d, text, at)
				if e := s.Begin(at); e != api.OK || s.Ext() != at || s.Steps() != 0 {
					t.Fatal(e, s.Ext(), s.Steps())
				}
				for n := 1; ; n++ {
					if l, ok := s.Lexeme(); ok || l != (api.Lexeme{}) {
						t.Fatal("a lexeme before the scan is done")
					}
					// Bytes that were not examined yet may change, and be missing.
					seen := text[:min(len(text), at+n)] + strings.Repeat("x", r.Intn(3))
					if at+n > len(text) {
						seen = text
					}
					done, e := s.Step(seen)
					if e != api.OK || s.Steps() != n || s.Ext() != at+n {
						t.Fatal(e, s.Steps(), s.Ext())
					}
					if done {
						break
					}
				}
				l, ok := s.Lexeme()
				if !ok || l != want || s.Steps() != want.Ext-at {
					t.Fatalf("%q at %d: %v, not %v", text, at, l, want)
				}
				if done, e := s.Step(text); done || e != api.ErrState {
					t.Fatal(done, e)
				}
			}
		}
	}
}

func TestP6_2Errors(t *testing.T) {
	d := build(t, "ab*", "[0-9]+")
	if s, e := New(api.Dfa{}); s != nil || e != api.ErrArg {
		t.Error(s, e)
	}
	s, _ := New(d)
	if done, e := s.Step("abc"); done || e != api.ErrState {
		t.Error("a step before Begin:", done, e)
	}
	if _, ok := s.Lexeme(); ok || s.Ext() != 0 || s.Steps() != 0 {
		t.Error("something before Begin")
	}
	if e := s.Begin(-1); e != api.ErrArg {
		t.Error(e)
	}
	if _, e := s.Step("abc"); e != api.ErrState {
		t.Error("Begin with an error began a scan:", e)
	}
	s.Begin(1)
	for text, want := range map[string]api.Errno{"": api.ErrArg, "x": api.ErrArg} {
		if done, e := s.Step(text); done || e != want || s.Steps() != 0 || s.Ext() != 1 {
			t.Errorf("Step(%q): %v, %d", text, done, e)
		}
	}
	if done, e := s.Step("xa"); done || e != api.OK {
		t.Error(done, e)
	}
	if done, e := s.Step("x"); done || e != api.ErrArg {
		t.Error("the byte where the scan began is gone:", done, e)
	}
	if done, e := s.Step("xab"); done || e != api.OK {
		t.Error(done, e)
	}
	if done, e := s.Step("xa"); done || e != api.ErrArg || s.Steps() != 2 {
		t.Error("shorter than what was examined:", done, e)
	}
	if e := s.Begin(-5); e != api.ErrArg || s.Steps() != 2 || s.Ext() != 3 {
		t.Error("Begin with an error changed something")
	}
	if done, e := s.Step("xab"); !done || e != api.OK {
		t.Error("the end counts as an examination:", done, e)
	}
	if l, ok := s.Lexeme(); !ok || l != (api.Lexeme{Rule: 0, From: 1, To: 3, Ext: 4}) {
		t.Error(l, ok)
	}
	if e := s.Begin(0); e != api.OK || s.Steps() != 0 {
		t.Error(e)
	}
	if _, ok := s.Lexeme(); ok {
		t.Error("the lexeme of an earlier scan")
	}
	s.Begin(1 << 62)
	if done, e := s.Step("abc"); done || e != api.ErrArg || s.Ext() != 1<<62 {
		t.Error(done, e)
	}
	copied := *s
	for _, bad := range []*Scanner{nil, {}, &copied} {
		done, e := bad.Step("a")
		l, ok := bad.Lexeme()
		if bad.Begin(0) != api.ErrNil || bad.Begin(-1) != api.ErrNil || done || e != api.ErrNil || ok || l != (api.Lexeme{}) || bad.Ext() != 0 || bad.Steps() != 0 {
			t.Error("an invalid scanner does something")
		}
	}
}

func TestScannersKeepNoArgument(t *testing.T) {
	d := build(t, "ab*")
	s, _ := New(d)
	for i := range d.Next {
		d.Next[i] = -1
	}
	d.Rule[1] = 7
	s.Begin(0)
	s.Step("ab")
	s.Step("ab")
	s.Step("ab")
	if l, ok := s.Lexeme(); !ok || l != (api.Lexeme{Rule: 0, From: 0, To: 2, Ext: 3}) {
		t.Error(l, ok)
	}
}

func TestScanIsAValue(t *testing.T) {
	d := build(t, "ab*", "abx")
	s := begin(0).examine(d, "abb", 2)
	one, other := s.examine(d, "abb", 5), s.examine(d, "abx", 5)
	if one.lexeme() != (api.Lexeme{Rule: 0, To: 3, Ext: 4}) || other.lexeme() != (api.Lexeme{Rule: 1, To: 3, Ext: 4}) || s.done {
		t.Error(one.lexeme(), other.lexeme())
	}
}

func TestP6_3(t *testing.T) {
	r := rand.New(rand.NewSource(3))
	for _, d := range samples(t) {
		for range 150 {
			text := randomText(r)
			at := 0
			for _, l := range All(d, text) {
				if l.From != at || l.To <= l.From || l.Ext < l.To {
					t.Fatal(l)
				}
				at = l.To
				other := text[:min(l.Ext, len(text))] + randomText(r)
				if l.Ext > len(text) {
					other = text
				}
				if got, _ := Next(d, other, l.From); got != l {
					t.Fatalf("%q, %q: %v, not %v", text, other, got, l)
				}
				// Bytes before the lexeme do not matter either.
				if got, _ := Next(d, text[l.From:], 0); got.Rule != l.Rule || got.To != l.To-l.From || got.Ext != l.Ext-l.From {
					t.Fatal(got, l)
				}
			}
			if at != len(text) {
				t.Fatal("the lexemes are not the text")
			}
		}
	}
}

func TestExamples(t *testing.T) {
	d := build(t, "ab*", "[0-9]+")
	want := []api.Lexeme{{Rule: 0, From: 0, To: 3, Ext: 4}, {Rule: -1, From: 3, To: 4, Ext: 4}, {Rule: 1, From: 4, To: 5, Ext: 6}}
	if got := All(d, "abbc7"); !slices.Equal(got, want) {
		t.Error(got)
	}
}
