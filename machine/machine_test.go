package machine

import (
	"math"
	"math/rand"
	"slices"
	"strings"
	"testing"

	"viewport/api"
	"viewport/cost"
	"viewport/fresh"
	"viewport/lexer"
	"viewport/predict"
	"viewport/sample"
	"viewport/shift"
	"viewport/tree"
)

func build(t *testing.T, s sample.Language) *fresh.Lang {
	t.Helper()
	l, e := fresh.Build(s.Rules, s.Grammar)
	if e != api.OK {
		t.Fatal(e)
	}
	return l
}

// naive does a run by recursion, in the words of the document.
type naive struct {
	l     *fresh.Lang
	g     api.Grammar
	text  string
	pool  []api.Part
	kept  []api.Token
	at    int
	units []api.Unit
	out   []api.Part
}

func (n *naive) unit(cost, read int) {
	n.units = append(n.units, api.Unit{Cost: cost, Read: read})
}

// window examines tokens until k are known, or the end is.
func (n *naive) window(k int) []api.Token {
	for len(n.kept) < k && (len(n.kept) == 0 || n.kept[len(n.kept)-1].Kind != api.KindEnd) {
		at := n.at
		if len(n.kept) > 0 {
			at = n.kept[len(n.kept)-1].To
		}
		t, _ := n.l.Token(n.text, at)
		n.unit(t.Ext-t.From, t.Ext)
		n.kept = append(n.kept, t)
	}
	return n.kept[:min(k, len(n.kept))]
}

func (n *naive) leaf(parent, kind int) {
	t := n.kept[0]
	n.add(parent, api.Part{Sym: t.Kind, Kind: kind, At: t.From, In: t.At, To: t.To, Look: t.Ext})
	n.at = t.To
	if t.Kind != api.KindEnd {
		n.kept = n.kept[1:]
	}
}

func (n *naive) add(parent int, p api.Part) int {
	if parent >= 0 {
		n.out[parent].Kids = append(n.out[parent].Kids, len(n.out))
	}
	n.out = append(n.out, p)
	return len(n.out) - 1
}

func (n *naive) non(parent, left int, own bool) {
	sym := n.g.Terms + left
	if i, ok := tree.Find(n.pool, sym, n.at); ok && !own {
		if p := n.pool[i]; p.Kind == api.PartNon && p.To > p.At && p.To <= len(n.text) && !tree.Stale(n.pool)[i] {
			sub := tree.Sub(n.pool, i)
			look, by := 0, len(n.out)
			n.out[parent].Kids = append(n.out[parent].Kids, by)
			for _, q := range sub {
				look = max(look, q.Look)
				for k := range q.Kids {
					q.Kids[k] += by
				}
				n.out = append(n.out, q)
			}
			n.unit(1, look)
			n.at = p.To
			n.kept = slices.DeleteFunc(n.kept, func(t api.Token) bool { return t.From < p.To })
			return
		}
	}
	i := n.add(parent, api.Part{Sym: sym, Kind: api.PartNon, At: n.at, In: n.at, To: n.at})
	for {
		w := n.window(n.g.K)
		ext := 0
		var kinds []int
		for _, t := range w {
			ext = max(ext, t.Ext)
			kinds = append(kinds, t.Kind)
		}
		n.out[i].Look = max(n.out[i].Look, ext)
		p := n.l.Predict(left, predict.Row(n.g.K, kinds))
		if p < 0 && (kinds[0] == api.KindEnd || n.l.Behind(left, kinds[0])) {
			n.unit(1, ext)
			if len(n.out[i].Kids) == 0 {
				n.out[i].Kind = api.PartMissing
			}
			break
		}
		if p < 0 {
			n.unit(1, w[0].Ext)
			n.leaf(i, api.PartSkip)
			continue
		}
		n.unit(1, ext)
		for _, s := range n.g.Prods[p].Right {
			if s >= n.g.Terms {
				n.non(i, s-n.g.Terms, false)
				continue
			}
			next := n.window(1)[0]
			n.unit(1, next.Ext)
			if next.Kind == s {
				n.leaf(i, api.PartTok)
			} else {
				n.add(i, api.Part{Sym: s, Kind: api.PartMissing, At: n.at, In: n.at, To: n.at, Look: next.Ext})
			}
		}
		break
	}
	n.out[i].To = n.at
}

func (n *naive) root() {
	n.add(-1, api.Part{Sym: api.SymRoot, Kind: api.PartRoot, Look: 1, To: len(n.text)})
	n.non(0, 0, false)
	for {
		next := n.window(1)[0]
		n.unit(1, next.Ext)
		if next.Kind == api.KindEnd {
			n.leaf(0, api.PartEnd)
			return
		}
		n.leaf(0, api.PartSkip)
	}
}

func naiveUnits(l *fresh.Lang, text string, left, at int, pool []api.Part) ([]api.Unit, []api.Part) {
	n := &naive{l: l, g: l.Grammar(), text: text, pool: pool, at: at}
	if left < 0 {
		n.root()
	} else {
		n.non(-1, left, true)
	}
	return n.units, n.out
}

// runs calls f with random runs whose pools are trees that edits have met.
func runs(t *testing.T, seed int64, times int, f func(r *rand.Rand, s sample.Language, l *fresh.Lang, text string, left, at int, pool []api.Part)) {
	r := rand.New(rand.NewSource(seed))
	for _, s := range sample.Languages() {
		l := build(t, s)
		for range times {
			text := s.Text(r.Intn, 16)
			pool, _ := l.Fresh(text)
			if r.Intn(3) == 0 {
				pool, _ = l.Tree(text, r.Intn(s.Grammar.Nons), r.Intn(len(text)+1))
			}
			for range r.Intn(3) {
				var e api.Edit
				e, _, text = s.Edit(r.Intn, text)
				pool = tree.Edit(pool, e, 1<<r.Intn(64))
			}
			if r.Intn(4) == 0 {
				pool = nil
			}
			left, at := -1, 0
			if r.Intn(2) == 0 {
				left, at = r.Intn(s.Grammar.Nons), r.Intn(len(text)+1)
			}
			f(r, s, l, text, left, at, pool)
		}
	}
}

func TestP18_1Units(t *testing.T) {
	runs(t, 1, 500, func(r *rand.Rand, s sample.Language, l *fresh.Lang, text string, left, at int, pool []api.Part) {
		before := tree.Copy(pool)
		units, got, e := Units(l, text, left, at, pool)
		wantUnits, want := naiveUnits(l, text, left, at, pool)
		if e != api.OK || !slices.Equal(units, wantUnits) || !tree.Same(got, want) {
			t.Fatalf("Units of %q, %d, %d with %v: %d\n%v\n%v\nnot\n%v\n%v", text, left, at, pool, e, units, got, wantUnits, want)
		}
		if !tree.Same(before, pool) {
			t.Fatal("the pool has changed")
		}
		var same []api.Part
		if left < 0 {
			same, _ = l.Fresh(text)
		} else {
			same, _ = l.Tree(text, left, at)
		}
		if !tree.Same(got, same) {
			t.Fatalf("P18.4: the tree of %q, %d, %d with %v:\n%v\nnot\n%v", text, left, at, pool, got, same)
		}
		if len(pool) == 0 {
			g := s.Grammar
			longest := 0
			for _, p := range g.Prods {
				longest = max(longest, len(p.Right))
			}
			n := len(text) + 1
			if bound := (cost.Const(g)*(1+longest)+2)*n + n*n; Steps(units) > bound {
				t.Fatalf("P18.4: %d steps for %q", Steps(units), text)
			}
		}
		paid := r.Intn(Steps(units) + 5)
		read, rest := at, paid
		for _, u := range units {
			if rest <= 0 {
				break
			}
			read = max(read, u.Read-max(0, u.Cost-rest))
			rest -= u.Cost
		}
		if got := Read(units, at, paid); got != read {
			t.Fatalf("Read of %v, %d, %d: %d, not %d", units, at, paid, got, read)
		}
	})
}

func TestP18_1StrangePools(t *testing.T) {
	s := sample.Languages()[2]
	l := build(t, s)
	non := func(sym, at, to int, kids ...int) api.Part {
		return api.Part{Sym: sym, Kind: api.PartNon, At: at, In: at, To: to, Look: to + 1, Kids: kids}
	}
	root := func(p ...api.Part) []api.Part {
		out := []api.Part{{Sym: api.SymRoot, Kind: api.PartRoot, To: 30, Look: 1}}
		for _, q := range p {
			out[0].Kids = append(out[0].Kids, len(out))
			out = append(out, q)
		}
		return out
	}
	stale := non(6, 0, 3)
	stale.Met = 1
	for i, pool := range [][]api.Part{
		nil,
		root(non(6, 0, 2)),               // it ends inside a token that is kept
		root(non(6, 0, 3)),               // it ends where a token begins
		root(non(6, 0, 1), non(5, 1, 6)), // what follows is taken, too
		root(non(6, 0, 0)),               // no bytes
		root(non(6, 0, 29)),              // longer than the text
		root(stale),                      // stale
		root(non(6, 0, 7)),               // the whole text
		root(non(6, 0, 0), non(6, 0, 3)), // the first one counts
		root(stale, non(6, 3, 5)),        // only a later one
		root(non(5, 0, 7)),               // nonterminal 0 itself
		{{Sym: 6, Kind: api.PartRoot, To: 9, Look: 1, Kids: []int{1}}, non(6, 0, 3)}, // a root with that symbol comes first
		{non(6, 0, 3)},
	} {
		if tree.Check(pool) != api.OK && pool != nil {
			t.Fatalf("%d: the pool is not valid", i)
		}
		for _, text := range []string{"a=b;a;{", "ab;a=b;", "abcdefg", "a ; a ;"} {
			for left := -1; left < 2; left++ {
				units, got, e := Units(l, text, left, 0, pool)
				wantUnits, want := naiveUnits(l, text, left, 0, pool)
				if e != api.OK || !slices.Equal(units, wantUnits) || !tree.Same(got, want) {
					t.Errorf("%d: %q, %d: %d\n%v\n%v\nnot\n%v\n%v", i, text, left, e, units, got, wantUnits, want)
				}
			}
		}
	}
}

func TestP18_1Errors(t *testing.T) {
	l := build(t, sample.Words())
	long := strings.Repeat("a", l.Most()+1)
	bad := []api.Part{{}}
	copied := *l
	for i, x := range []struct {
		l        *fresh.Lang
		text     string
		left, at int
		pool     []api.Part
		want     api.Errno
	}{
		{nil, long, -9, -9, bad, api.ErrNil},
		{&fresh.Lang{}, "", 0, 0, nil, api.ErrNil},
		{&copied, "", 0, 0, nil, api.ErrNil},
		{l, long, -9, -9, bad, api.ErrLong},
		{l, long[1:], 0, l.Most(), nil, api.OK},
		{l, "a", -2, 0, nil, api.ErrArg},
		{l, "a", 1, 0, nil, api.ErrArg},
		{l, "a", math.MaxInt, 0, nil, api.ErrArg},
		{l, "a", 0, -1, nil, api.ErrArg},
		{l, "a", 0, 2, nil, api.ErrArg},
		{l, "a", 0, math.MaxInt, nil, api.ErrArg},
		{l, "a", 0, 1, nil, api.OK},
		{l, "a", -1, 1, nil, api.ErrArg},
		{l, "a", -1, -1, nil, api.ErrArg},
		{l, "a", -1, 0, nil, api.OK},
		{l, "a", -1, 0, bad, api.ErrArg},
		{l, "a", -1, 0, []api.Part{}, api.OK},
		{l, "a", 0, 0, make([]api.Part, api.MaxParts+1), api.ErrArg},
	} {
		units, parts, e := Units(x.l, x.text, x.left, x.at, x.pool)
		if e != x.want || (e == api.OK) != (len(units) > 0) || (e == api.OK) != (len(parts) > 0) {
			t.Errorf("%d: %v, %v, %d", i, units, parts, e)
		}
	}
	const least, most = math.MinInt, math.MaxInt
	if Steps(nil) != 0 || Steps([]api.Unit{{Cost: 2}, {Cost: 5}}) != 7 || Steps([]api.Unit{{Cost: most}, {Cost: most}}) != most || Steps([]api.Unit{{Cost: least}, {Cost: -1}}) != least {
		t.Error("Steps")
	}
	l2 := []api.Unit{{Cost: 3, Read: 9}, {Cost: 1, Read: 4}, {Cost: 2, Read: 20}}
	for paid, want := range map[int]int{least: 5, -1: 5, 0: 5, 1: 7, 2: 8, 3: 9, 4: 9, 5: 19, 6: 20, 7: 20, most: 20} {
		if got := Read(l2, 5, paid); got != want {
			t.Errorf("Read after %d: %d, not %d", paid, got, want)
		}
	}
	free := []api.Unit{{Cost: 0, Read: 7}, {Cost: 2, Read: 6}, {Cost: 0, Read: 9}}
	for paid, want := range map[int]int{0: 7, 1: 7, 2: 9, 5: 9} {
		if got := Read(free, 1, paid); got != want {
			t.Errorf("Read after %d, of units that cost nothing: %d, not %d", paid, got, want)
		}
	}
	if Read(nil, -3, 5) != -3 || Read([]api.Unit{{Cost: most, Read: least}}, least, 1) != least || Read([]api.Unit{{Cost: least, Read: 1}, {Cost: 1, Read: 2}}, 0, most) != 2 {
		t.Error("Read")
	}
}

// model is a machine that works all units out for each Run.
type model struct {
	l        *fresh.Lang
	left, at int
	pool     []api.Part
	paid     int
	read     int
	tree     []api.Part
}

func (m *model) run(text string, quota int) (int, bool, api.Errno) {
	units, parts, e := Units(m.l, text, m.left, m.at, m.pool)
	if e != api.OK {
		return 0, false, e
	}
	if quota < 0 {
		return 0, false, api.ErrArg
	}
	spent := max(0, min(quota, Steps(units)-m.paid))
	m.paid += spent
	m.read = Read(units, m.at, m.paid)
	m.tree = nil
	if m.paid >= Steps(units) {
		m.tree = parts
	}
	return spent, m.tree != nil, api.OK
}

func (m *model) edit(e api.Edit, bit uint64) bool {
	span := api.Span{From: m.at, To: m.read}
	if m.left < 0 {
		span.From = -1
	}
	on := m.paid == 0 || !shift.Meets(span, e)
	if !on {
		m.paid = 0
	}
	was := m.at
	if m.left >= 0 {
		m.at = shift.Start(m.at, e)
	}
	m.read += m.at - was
	m.pool = tree.Edit(m.pool, e, bit)
	m.tree = nil
	return on
}

func TestP18_2And3(t *testing.T) {
	resumed, lost := 0, 0
	runs(t, 2, 400, func(r *rand.Rand, s sample.Language, l *fresh.Lang, text string, left, at int, pool []api.Part) {
		m, e := New(l, left, at, pool)
		if e != api.OK || m.Paid() != 0 || m.At() != at || m.Left() != left {
			t.Fatal(e)
		}
		n := &model{l: l, left: left, at: at, pool: tree.Copy(pool)}
		for i := range pool {
			pool[i].Met, pool[i].Kids = 1, nil
		}
		for range 12 {
			if r.Intn(5) == 0 {
				var edit api.Edit
				edit, _, text = s.Edit(r.Intn, text)
				bit := uint64(1) << r.Intn(64)
				before := n.paid
				on, want := m.Edit(edit, bit), n.edit(edit, bit)
				if on != want {
					t.Fatalf("Edit %v: %v", edit, on)
				}
				if before > 0 && on {
					resumed++
				} else if !on {
					lost++
				}
			} else {
				with := text
				if r.Intn(12) == 0 {
					with = s.Text(r.Intn, 16)
				}
				quota := r.Intn(8)
				if r.Intn(4) == 0 {
					quota = r.Intn(200) - 5
				}
				spent, done, e := m.Run(with, quota)
				wantSpent, wantDone, wantE := n.run(with, quota)
				if spent != wantSpent || done != wantDone || e != wantE {
					t.Fatalf("Run %q, %d: %d, %v, %d, not %d, %v, %d", with, quota, spent, done, e, wantSpent, wantDone, wantE)
				}
			}
			got, ok := m.Tree()
			if ok != (n.tree != nil) || !tree.Same(got, n.tree) || m.Paid() != n.paid || m.At() != n.at || m.Left() != left {
				t.Fatalf("%v, %v, %d, %d, not %v, %d, %d", got, ok, m.Paid(), m.At(), n.tree, n.paid, n.at)
			}
			for i := range got {
				got[i].Kids, got[i].Sym = nil, 77
			}
		}
	})
	if resumed < 50 || lost < 50 {
		t.Error("few runs went on after an edit, or were lost:", resumed, lost)
	}
}

func TestP18_2Errors(t *testing.T) {
	l := build(t, sample.Words())
	for i, x := range []struct {
		l        *fresh.Lang
		left, at int
		pool     []api.Part
		want     api.Errno
	}{
		{nil, -9, 0, nil, api.ErrNil},
		{&fresh.Lang{}, 0, 0, nil, api.ErrNil},
		{l, -2, 0, nil, api.ErrArg},
		{l, 1, 0, nil, api.ErrArg},
		{l, 0, -1, nil, api.ErrArg},
		{l, -1, 1, nil, api.ErrArg},
		{l, -1, 0, []api.Part{{}}, api.ErrArg},
		{l, 0, 1 << 62, nil, api.OK},
		{l, -1, 0, []api.Part{}, api.OK},
	} {
		m, e := New(x.l, x.left, x.at, x.pool)
		if e != x.want || (m != nil) != (e == api.OK) {
			t.Errorf("%d: %d", i, e)
		}
	}
	m, _ := New(l, 0, 2, nil)
	for i, x := range []struct {
		text  string
		quota int
		want  api.Errno
	}{
		{strings.Repeat("a", l.Most()+1), -1, api.ErrLong}, {"a", -1, api.ErrArg}, {"a", 5, api.ErrArg}, {"a b", -1, api.ErrArg}, {"a b", math.MinInt, api.ErrArg}, {"a b", 0, api.OK},
	} {
		if spent, done, e := m.Run(x.text, x.quota); spent != 0 || done || e != x.want {
			t.Errorf("%d: %d, %v, %d", i, spent, done, e)
		}
	}
	spent, done, e := m.Run("a b", math.MaxInt)
	if !done || e != api.OK || m.Paid() != spent {
		t.Error(spent, done, e)
	}
	m.Run("a b", -1)
	want, _ := l.Tree("a b", 0, 2)
	if got, ok := m.Tree(); !ok || !tree.Same(got, want) {
		t.Error("a Run with an error changes nothing:", got, ok)
	}
	if m.Edit(api.Edit{At: -1}, 1) || m.Edit(api.Edit{Del: -1}, 1) || m.Edit(api.Edit{Ins: -1}, 1) || m.Paid() != spent || m.At() != 2 {
		t.Error("an edit with a negative number does something")
	}
	if _, ok := m.Tree(); !ok {
		t.Error("an edit with a negative number does something")
	}
	if more, done, e := m.Run("a b", 9); more != 0 || !done || e != api.OK {
		t.Error(more, done, e)
	}
	if !m.Edit(api.Edit{Ins: 1}, 1) || m.At() != 3 || m.Paid() != spent {
		t.Error("an edit before the position:", m.At(), m.Paid())
	}
	if got, ok := m.Tree(); ok || got != nil {
		t.Error("a tree after an edit")
	}
	if more, done, e := m.Run("xa b", 9); more != 0 || !done || e != api.OK {
		t.Error(more, done, e)
	}
	if m.Edit(api.Edit{At: 4, Ins: 1}, 1) || m.Paid() != 0 || m.At() != 3 {
		t.Error("an edit of what has been read:", m.At(), m.Paid())
	}
	copied := *m
	for i, bad := range []*Machine{nil, {}, &copied} {
		spent, done, e := bad.Run("a b", 1)
		got, ok := bad.Tree()
		if spent != 0 || done || e != api.ErrNil || got != nil || ok || bad.Paid() != 0 || bad.At() != 0 || bad.Left() != 0 || bad.Edit(api.Edit{}, 1) {
			t.Errorf("%d: an invalid machine does something", i)
		}
	}
}

func TestP18_2StepByStep(t *testing.T) {
	s := sample.Languages()[1]
	l := build(t, s)
	text := "1+(2+(3)+)4"
	units, want, _ := Units(l, text, -1, 0, nil)
	m, _ := New(l, -1, 0, nil)
	for paid := 1; ; paid++ {
		spent, done, e := m.Run(text, 1)
		if spent != 1 || e != api.OK || m.Paid() != paid || done != (paid == Steps(units)) {
			t.Fatal(spent, done, e, m.Paid())
		}
		if done {
			break
		}
	}
	if got, ok := m.Tree(); !ok || !tree.Same(got, want) {
		t.Error(got, ok)
	}
}

func TestReuseIsCheap(t *testing.T) {
	s := sample.Languages()[2]
	l := build(t, s)
	text := strings.Repeat("a=b;", 400)
	pool, _ := l.Fresh(text)
	all, _, _ := Units(l, text, -1, 0, nil)
	e := api.Edit{At: 800, Ins: 1}
	text = text[:800] + "c" + text[800:]
	pool = tree.Edit(pool, e, 1)
	units, got, _ := Units(l, text, -1, 0, pool)
	want, _ := l.Fresh(text)
	if !tree.Same(got, want) || Steps(units) > Steps(all)*3/4 {
		t.Error(Steps(units), Steps(all))
	}
}

func TestLexerAndTokens(t *testing.T) {
	// A token is examined once: all Costs are those of the tokens, and one for each other unit.
	s := sample.Words()
	l := build(t, s)
	x, _, _ := lexer.Build(s.Rules)
	text := "ab a b 1 a"
	units, parts, _ := Units(l, text, -1, 0, nil)
	sum := 0
	for tok := range lexer.Each(x, text, 0) {
		sum += tok.Ext - tok.From
	}
	ones := 0
	for _, p := range parts {
		if p.Kind != api.PartRoot {
			ones++
		}
	}
	if Steps(units) != sum+ones {
		t.Error(Steps(units), sum, ones)
	}
}

func TestExamples(t *testing.T) {
	l := build(t, sample.Words())
	units, _, e := Units(l, "a", 0, 0, nil)
	want := []api.Unit{{Cost: 2, Read: 2}, {Cost: 1, Read: 2}, {Cost: 1, Read: 2}, {Cost: 1, Read: 2}, {Cost: 1, Read: 2}}
	if e != api.OK || !slices.Equal(units, want) {
		t.Error(units, e)
	}
}
