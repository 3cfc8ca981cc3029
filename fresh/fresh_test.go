package fresh

import (
	"math"
	"math/rand"
	"slices"
	"strings"
	"testing"

	"viewport/api"
	"viewport/cost"
	"viewport/follow"
	"viewport/lexer"
	"viewport/predict"
	"viewport/sample"
	"viewport/tree"
)

func build(t *testing.T, s sample.Language) *Lang {
	t.Helper()
	l, e := Build(s.Rules, s.Grammar)
	if e != api.OK {
		t.Fatalf("%v: %d", s.Grammar, e)
	}
	return l
}

// naive makes trees by recursion, in the words of the document, with tables of its own.
type naive struct {
	x     api.Lexer
	g     api.Grammar
	table api.Table
	next  [][]bool
	text  string
}

func newNaive(s sample.Language, text string) *naive {
	n := &naive{g: s.Grammar, text: text, next: follow.Next(s.Grammar)}
	n.x, _, _ = lexer.Build(s.Rules)
	n.table, _, _ = predict.Build(s.Grammar)
	return n
}

func (n *naive) token(at int) api.Token {
	t, _ := lexer.Next(n.x, n.text, at)
	return t
}

// shape is a part with its children in it.
type shape struct {
	api.Part
	kids []*shape
}

func leaf(kind int, t api.Token) *shape {
	return &shape{Part: api.Part{Sym: t.Kind, Kind: kind, At: t.From, In: t.At, To: t.To, Look: t.Ext}}
}

func (n *naive) non(left, at int) *shape {
	s := &shape{Part: api.Part{Sym: n.g.Terms + left, Kind: api.PartNon, At: at, In: at, To: at}}
	for p := at; ; p = s.To {
		row, ext, _ := lexer.Window(n.x, n.text, p, n.g.K)
		s.Look = max(s.Look, ext)
		next := n.token(p)
		if i := predict.Predict(n.g, n.table, left, row); i >= 0 {
			for _, sym := range n.g.Prods[i].Right {
				var kid *shape
				switch next = n.token(s.To); {
				case sym >= n.g.Terms:
					kid = n.non(sym-n.g.Terms, s.To)
				case next.Kind == sym:
					kid = leaf(api.PartTok, next)
				default:
					kid = &shape{Part: api.Part{Sym: sym, Kind: api.PartMissing, At: s.To, In: s.To, To: s.To, Look: next.Ext}}
				}
				s.kids = append(s.kids, kid)
				s.To = kid.To
			}
			return s
		}
		if next.Kind == api.KindEnd || next.Kind >= 0 && n.next[left][next.Kind] {
			if len(s.kids) == 0 {
				s.Kind = api.PartMissing
			}
			return s
		}
		kid := leaf(api.PartSkip, next)
		s.kids = append(s.kids, kid)
		s.To = kid.To
	}
}

func (n *naive) fresh() *shape {
	s := &shape{Part: api.Part{Sym: api.SymRoot, Kind: api.PartRoot, To: len(n.text), Look: 1}}
	s.kids = append(s.kids, n.non(0, 0))
	next := n.token(s.kids[0].To)
	for ; next.Kind != api.KindEnd; next = n.token(next.To) {
		s.kids = append(s.kids, leaf(api.PartSkip, next))
	}
	s.kids = append(s.kids, leaf(api.PartEnd, next))
	return s
}

func (s *shape) list(l []api.Part) []api.Part {
	i := len(l)
	l = append(l, s.Part)
	for _, k := range s.kids {
		l[i].Kids = append(l[i].Kids, len(l))
		l = k.list(l)
	}
	return l
}

func TestP17_2(t *testing.T) {
	r := rand.New(rand.NewSource(1))
	for _, s := range sample.Languages() {
		l := build(t, s)
		for range 400 {
			text := s.Text(r.Intn, 14)
			n := newNaive(s, text)
			want := n.fresh().list(nil)
			got, e := l.Fresh(text)
			if e != api.OK || !tree.Same(got, want) {
				t.Fatalf("Fresh of %q: %d\n%v\nnot\n%v", text, e, got, want)
			}
			if tree.Check(got) != api.OK || Text(got, text) != text {
				t.Fatalf("Fresh of %q: %v", text, got)
			}
			whole := !slices.ContainsFunc(got, func(p api.Part) bool { return p.Kind == api.PartMissing || p.Kind == api.PartSkip })
			if Whole(got) != whole {
				t.Fatalf("Whole of %q: %v", text, !whole)
			}
			var row []byte
			for _, tok := range slices.Collect(lexer.Each(n.x, text, 0)) {
				row = append(row, byte(tok.Kind))
			}
			if _, ok := cost.Derive(s.Grammar, n.table, string(row[:len(row)-1])); ok != whole {
				t.Fatalf("P17.3: the tokens of %q can be derived: %v", text, ok)
			}
			left, at := r.Intn(s.Grammar.Nons), r.Intn(len(text)+1)
			want = n.non(left, at).list(nil)
			got, e = l.Tree(text, left, at)
			if e != api.OK || !tree.Same(got, want) {
				t.Fatalf("Tree of %q, %d, %d: %d\n%v\nnot\n%v", text, left, at, e, got, want)
			}
		}
	}
}

func TestP17_3OtherBytes(t *testing.T) {
	r := rand.New(rand.NewSource(2))
	for _, s := range sample.Languages() {
		l := build(t, s)
		for range 400 {
			text := s.Text(r.Intn, 14)
			left, at := r.Intn(s.Grammar.Nons), r.Intn(len(text)+1)
			got, _ := l.Tree(text, left, at)
			look := 0
			for _, p := range got {
				look = max(look, p.Look)
			}
			before, after := s.Text(r.Intn, 6), ""
			if look <= len(text) {
				after = s.Text(r.Intn, 6)
			}
			other := before + text[at:min(look, len(text))] + after
			again, e := l.Tree(other, left, len(before))
			if e != api.OK || !tree.Same(again, tree.Move(got, len(before)-at)) {
				t.Fatalf("the tree of %q at %d is another one in %q", text, at, other)
			}
		}
	}
}

// with adds a production to a grammar.
func with(g api.Grammar, p api.Prod) api.Grammar {
	g.Prods = append(g.Prods, p)
	return g
}

func TestP17_1MaxConst(t *testing.T) {
	// The Const of the first one is MaxConst, that of the second one is one more. Neither has too many parts for a text without bytes.
	l, e := Build(sample.Words().Rules, sample.MostConst())
	if e != api.OK || l.Most() != 0 {
		t.Error(e, l.Most())
	}
	if got, e := l.Fresh(""); e != api.OK || len(got) != 730 || !Whole(got) {
		t.Error(len(got), e)
	}
	if l, e := Build(sample.Words().Rules, sample.OverConst()); l != nil || e != api.ErrFull {
		t.Error(e)
	}
}

func TestP17_1Build(t *testing.T) {
	w := sample.Words()
	long := sample.Prod(0, slices.Repeat([]int{0}, 8)...)
	for i, x := range []struct {
		rules []api.Rule
		g     api.Grammar
		want  api.Errno
		most  int
	}{
		{w.Rules, w.Grammar, api.OK, api.MaxParts/14 - 1},
		{nil, w.Grammar, api.ErrArg, 0},
		{[]api.Rule{api.Rule{Name: "a", Regex: "("}}, api.Grammar{}, api.ErrMore, 0},
		{[]api.Rule{api.Rule{Name: "a", Regex: "a*"}}, w.Grammar, api.ErrBad, 0},
		{[]api.Rule{api.Rule{Name: "a", Regex: "a"}, api.Rule{Name: "a", Regex: "b"}}, w.Grammar, api.ErrThere, 0},
		{w.Rules, api.Grammar{}, api.ErrArg, 0},
		{w.Rules, api.Grammar{Terms: 9}, api.ErrLong, 0},
		{w.Rules, api.Grammar{Terms: 1, Nons: 2, K: 1, Prods: []api.Prod{sample.Prod(0), sample.Prod(1)}}, api.ErrNone, 0},
		{w.Rules, api.Grammar{Terms: 1, Nons: 1, K: 1, Prods: []api.Prod{sample.Prod(0, 1, 0), sample.Prod(0)}}, api.ErrBad, 0},
		{w.Rules, api.Grammar{Terms: 1, Nons: 1, K: 1, Prods: []api.Prod{sample.Prod(0), sample.Prod(0)}}, api.ErrState, 0},
		{w.Rules, api.Grammar{Terms: 2, Nons: 1, K: 1, Prods: []api.Prod{sample.Prod(0)}}, api.ErrArg, 0},
		{append(slices.Clip(w.Rules), api.Rule{Name: "b", Regex: "B"}), w.Grammar, api.ErrArg, 0},
		{w.Rules, sample.Tower(5, 8), api.ErrFull, 0},
		{w.Rules, sample.Tower(5, 6), api.OK, 0},
		{w.Rules, with(sample.Tower(5, 6), long), api.ErrFull, 0},
		{w.Rules, api.Grammar{Terms: 1, Nons: 1, K: 1, Prods: []api.Prod{sample.Prod(0)}}, api.OK, api.MaxText},
	} {
		l, e := Build(x.rules, x.g)
		if e != x.want || (l != nil) != (e == api.OK) || l.Most() != x.most {
			t.Errorf("%d: %d, %d", i, e, l.Most())
		}
		if l != nil && l.Grammar().Nons != x.g.Nons {
			t.Errorf("%d: %v", i, l.Grammar())
		}
	}
	// The language keeps nothing of what it was made from, and gives nothing of it away.
	l := build(t, w)
	w.Grammar.Prods[0].Right[0] = 7
	g := l.Grammar()
	g.Prods[1] = sample.Prod(0, 0)
	if got := l.Grammar(); got.Prods[0].Right[0] != 0 || len(got.Prods[1].Right) != 0 {
		t.Error(got)
	}
	if got, _ := l.Fresh("a"); !Whole(got) {
		t.Error(got)
	}
}

func TestP17_1Most(t *testing.T) {
	// The greatest n for which c * (n + 1) is at most MaxParts.
	for _, s := range sample.Languages() {
		longest := 0
		for _, p := range s.Grammar.Prods {
			longest = max(longest, len(p.Right))
		}
		c := cost.Const(s.Grammar)*(1+longest) + 2
		n := build(t, s).Most()
		if n > api.MaxText || c*(n+1) > api.MaxParts || n < api.MaxText && c*(n+2) <= api.MaxParts {
			t.Errorf("%d, %d", c, n)
		}
	}
}

func TestP17_1Language(t *testing.T) {
	for _, s := range sample.Languages() {
		l := build(t, s)
		n := newNaive(s, "")
		for left := -1; left <= s.Grammar.Nons; left++ {
			exists := left >= 0 && left < s.Grammar.Nons
			for kind := -4; kind <= s.Grammar.Terms+1; kind++ {
				want := exists && (kind == api.KindEnd && n.next[left][s.Grammar.Terms] || kind >= 0 && kind < s.Grammar.Terms && n.next[left][kind])
				if got := l.Behind(left, kind); got != want {
					t.Errorf("Behind %d, %d: %v", left, kind, got)
				}
			}
			for _, row := range []string{"", "\x00", "\x01", "\xff", "\x00\x01", "\x00\x02", "\x03\x00", "\x00\x00\x02", "\xfe"} {
				if got := l.Predict(left, row); got != predict.Predict(s.Grammar, n.table, left, row) {
					t.Errorf("Predict %d, %q: %d", left, row, got)
				}
			}
		}
		text := s.Bytes + s.Bytes
		for at := -1; at <= len(text)+1; at++ {
			want, we := lexer.Next(n.x, text, at)
			if got, e := l.Token(text, at); got != want || e != we {
				t.Errorf("Token %d: %v, %d", at, got, e)
			}
		}
	}
}

func TestP17_2Errors(t *testing.T) {
	l := build(t, sample.Words())
	long := strings.Repeat("a", l.Most())
	if got, e := l.Fresh(long); e != api.OK || len(got) != 5 {
		t.Error(len(got), e)
	}
	long += "a"
	tok, e0 := l.Token(long, -1)
	got, e1 := l.Fresh(long)
	got2, e2 := l.Tree(long, -1, -1)
	if tok != (api.Token{}) || e0 != api.ErrLong || len(got) != 0 || e1 != api.ErrLong || len(got2) != 0 || e2 != api.ErrLong {
		t.Error(e0, e1, e2)
	}
	for _, x := range [][2]int{{-1, 0}, {1, 0}, {0, -1}, {0, 4}, {math.MaxInt, 0}, {math.MinInt, 0}, {0, math.MaxInt}} {
		if got, e := l.Tree("a b", x[0], x[1]); e != api.ErrArg || len(got) != 0 {
			t.Errorf("Tree %v: %d", x, e)
		}
	}
	copied := *l
	for i, bad := range []*Lang{nil, {}, &copied} {
		tok, e0 := bad.Token("a", 0)
		got, e1 := bad.Fresh("a")
		got2, e2 := bad.Tree("a", 0, 0)
		g := bad.Grammar()
		if tok != (api.Token{}) || e0 != api.ErrNil || len(got) != 0 || e1 != api.ErrNil || len(got2) != 0 || e2 != api.ErrNil || g.Terms != 0 || g.Nons != 0 || g.K != 0 || len(g.Prods) != 0 || bad.Most() != 0 || bad.Predict(0, "\x00") != -1 || bad.Behind(0, api.KindEnd) {
			t.Errorf("%d: an invalid language does something", i)
		}
	}
}

func TestP17_2WholeAndText(t *testing.T) {
	l := build(t, sample.Words())
	ab, _ := l.Fresh("a b")
	one, _ := l.Fresh("1")
	if !Whole(ab) || Whole(one) || Whole(nil) || Whole([]api.Part{{}}) {
		t.Error("Whole")
	}
	missing := []api.Part{{Kind: api.PartMissing, Look: 1}}
	if Whole(missing) || Whole([]api.Part{{Kind: api.PartSkip, Look: 1}}) || !Whole([]api.Part{{Kind: api.PartTok, Look: 1}}) {
		t.Error("Whole of single parts")
	}
	for text, want := range map[string]string{"a b": "a b", "xyz": "xyz", "a": "a", "": "", "a bcd": "a b", "\xff\x00": "\xff\x00"} {
		if got := Text(ab, text); got != want {
			t.Errorf("Text of %q: %q", text, got)
		}
	}
	ab[0].Kids = nil
	if Text(ab, "a b") != "" {
		t.Error("Text of a tree that is not valid")
	}
	// Bytes that are in no leaf are left out.
	gap := []api.Part{{Kind: api.PartNon, At: 1, In: 1, To: 6, Look: 2, Kids: []int{1, 2}}, {Kind: api.PartTok, At: 2, In: 2, To: 3, Look: 4}, {Kind: api.PartSkip, At: 4, In: 5, To: 6, Look: 7}}
	if got := Text(gap, "0123456"); got != "245" {
		t.Errorf("%q", got)
	}
}

func TestP17_2Long(t *testing.T) {
	l := build(t, sample.Words())
	text := strings.Repeat("a ", l.Most()/2)
	got, e := l.Fresh(text)
	if e != api.OK || len(got) != 2*(l.Most()/2)+3 || !Whole(got) || Text(got, text) != text {
		t.Error(len(got), e)
	}
	sums := build(t, sample.Languages()[1])
	text = strings.Repeat("(", sums.Most())
	if got, e := sums.Fresh(text); e != api.OK || tree.Check(got) != api.OK || Text(got, text) != text {
		t.Error(len(got), e)
	}
}

func TestExamples(t *testing.T) {
	l := build(t, sample.Words())
	got, e := l.Fresh("a b")
	want := []api.Part{
		{Sym: api.SymRoot, Kind: api.PartRoot, To: 3, Look: 1, Kids: []int{1, 6}},
		{Sym: 1, Kind: api.PartNon, To: 3, Look: 2, Kids: []int{2, 3}},
		{Sym: 0, Kind: api.PartTok, To: 1, Look: 2},
		{Sym: 1, Kind: api.PartNon, At: 1, In: 1, To: 3, Look: 4, Kids: []int{4, 5}},
		{Sym: 0, Kind: api.PartTok, At: 1, In: 2, To: 3, Look: 4},
		{Sym: 1, Kind: api.PartNon, At: 3, In: 3, To: 3, Look: 4},
		{Sym: api.KindEnd, Kind: api.PartEnd, At: 3, In: 3, To: 3, Look: 4},
	}
	if e != api.OK || !tree.Same(got, want) {
		t.Errorf("%v, %d", got, e)
	}
	got, e = l.Fresh("1")
	want = []api.Part{
		{Sym: api.SymRoot, Kind: api.PartRoot, To: 1, Look: 1, Kids: []int{1, 3}},
		{Sym: 1, Kind: api.PartNon, To: 1, Look: 2, Kids: []int{2}},
		{Sym: api.KindBad, Kind: api.PartSkip, To: 1, Look: 2},
		{Sym: api.KindEnd, Kind: api.PartEnd, At: 1, In: 1, To: 1, Look: 2},
	}
	if e != api.OK || !tree.Same(got, want) {
		t.Errorf("%v, %d", got, e)
	}
}
