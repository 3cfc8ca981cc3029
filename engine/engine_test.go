package engine

import (
	"math"
	"math/rand"
	"slices"
	"strings"
	"testing"

	"viewport/api"
	"viewport/cost"
	"viewport/fresh"
	"viewport/marks"
	"viewport/sample"
	"viewport/shift"
	"viewport/tree"
)

// configured is a language with a configuration.
type configured struct {
	sample.Language
	config api.Config
}

func words() configured {
	l := sample.Words()
	return configured{l, l.Config(1, 5, 4)}
}

func languages() []configured {
	out := []configured{words()}
	for _, l := range []sample.Language{sample.Sums(), sample.Statements(), sample.Letters()} {
		out = append(out, configured{l, api.Config{}})
	}
	out[1].config = out[1].Config(2, 2, 2)
	out[2].config = out[2].Config(8, 1, 3)
	out[3].config = out[3].Config(0, 1000, 32)
	return out
}

func open(t *testing.T, c api.Config, text string) *Session {
	t.Helper()
	s, e := Open(c, text)
	if e != api.OK {
		t.Fatalf("Open of %q: %d", text, e)
	}
	return s
}

// bound is that of P27.5.
func bound(c api.Config, n, jobs int) int {
	longest := 0
	for _, p := range c.Grammar.Prods {
		longest = max(longest, len(p.Right))
	}
	factor := cost.Const(c.Grammar)*(1+longest) + 2
	return jobs * (c.Up + 1) * (factor*(n+1) + (n+1)*(n+1))
}

// leaf is what makes a leaf of the fresh tree the same as another one.
type leaf struct {
	sym, kind, at, in, to int
	path                  string
}

func leafOf(l []api.Part, i int) leaf {
	var path []byte
	for _, s := range tree.Path(l, i) {
		path = append(path, byte(s+8))
	}
	return leaf{l[i].Sym, l[i].Kind, l[i].At, l[i].In, l[i].To, string(path)}
}

// check holds a session against P27.4 and against its own text.
func check(t *testing.T, s *Session, c api.Config, text string) {
	t.Helper()
	l, jobs := s.Tree(), s.Jobs()
	if s.Text() != text || tree.Check(l) != api.OK || l[0].Kind != api.PartRoot || l[0].At != 0 || l[0].To != len(text) || len(jobs) > c.Jobs {
		t.Fatalf("%q, not %q: %v, %v", s.Text(), text, l, jobs)
	}
	var slots uint64
	first := -1
	for _, j := range jobs {
		slots |= 1 << j.Slot
		if first < 0 || j.Span.From < first {
			first = j.Span.From
		}
		if j.Span.From < 0 || j.Span.To > len(text) {
			t.Fatalf("a job outside of the text: %v", j)
		}
	}
	stale := tree.Stale(l)
	want, _ := s.Lang().Fresh(text)
	bare := tree.Bare(l)
	known := map[leaf]bool{}
	for i := range want {
		known[leafOf(want, i)] = true
	}
	got := s.Marks()
	if !slices.Equal(got, marks.Marks(l, c.Grammar.K, first)) {
		t.Fatalf("Marks: %v", got)
	}
	for i, p := range l {
		if p.Met&^slots != 0 {
			t.Fatalf("%v has been met by no job of %v", p, jobs)
		}
		if !stale[i] && p.Kind == api.PartNon {
			same, e := s.Lang().Tree(text, p.Sym-c.Grammar.Terms, p.At)
			if e != api.OK || !tree.Same(same, tree.Sub(bare, i)) {
				t.Fatalf("%q: part %d is not stale, but another one:\n%v\nnot\n%v", text, i, tree.Sub(bare, i), same)
			}
		}
		if got[i] == api.MarkConfirmed && p.Kind > api.PartNon && !known[leafOf(l, i)] {
			t.Fatalf("%q: a confirmed leaf is not in the fresh tree: %v\n%v\n%v", text, p, l, want)
		}
	}
	if len(jobs) == 0 && !tree.Same(l, want) {
		t.Fatalf("%q: the idle tree is\n%v\nnot\n%v", text, l, want)
	}
	if len(jobs) == 0 && s.Paid() != 0 {
		t.Fatal("something has been paid for no machine:", s.Paid())
	}
}

func TestP27_4(t *testing.T) {
	r := rand.New(rand.NewSource(1))
	for n, x := range languages() {
		for range 150 {
			c := x.config
			if r.Intn(2) == 0 {
				c.Up, c.Wait, c.Jobs = r.Intn(4), 1+r.Intn(4), 1+r.Intn(5)
			}
			text := x.Text(r.Intn, 40)
			s := open(t, c, text)
			check(t, s, c, text)
			if want, _ := s.Lang().Fresh(text); !tree.Same(s.Tree(), want) || s.Seen() != (api.Span{}) {
				t.Fatal("a new session")
			}
			for range 25 {
				switch r.Intn(5) {
				case 0, 1:
					edit, ins, after := x.Edit(r.Intn, text)
					view := s.Seen()
					if e := s.Edit(edit.At, edit.Del, ins); e != api.OK {
						t.Fatal(e)
					}
					text = after
					if s.Seen() != shift.Move(view, edit) {
						t.Fatalf("the view %v becomes %v", view, s.Seen())
					}
				case 2:
					from := r.Intn(len(text) + 1)
					to := from + r.Intn(len(text)-from+1)
					if e := s.View(from, to); e != api.OK || s.Seen() != (api.Span{From: from, To: to}) {
						t.Fatal(e, s.Seen())
					}
				default:
					quota := r.Intn(12)
					before := len(s.Jobs())
					spent, e := s.Tick(quota)
					if e != api.OK || spent < 0 || spent > quota || spent < quota && len(s.Jobs()) > 0 || before == 0 && spent > 0 || before > 0 && quota > 0 && spent == 0 {
						t.Fatalf("%d: Tick %d: %d, %d", n, quota, spent, e)
					}
				}
				check(t, s, c, text)
			}
			steps, most := 0, bound(c, len(text), len(s.Jobs()))
			for len(s.Jobs()) > 0 {
				from := r.Intn(len(text) + 1)
				s.View(from, from)
				spent, _ := s.Tick(1 + r.Intn(9))
				if steps += spent; steps > most {
					t.Fatalf("P27.5: %d steps, not %d", steps, most)
				}
			}
			check(t, s, c, text)
		}
	}
}

func TestP27_1(t *testing.T) {
	c := words().config
	for i, x := range []struct {
		spoil func(c *api.Config)
		want  api.Errno
	}{
		{func(c *api.Config) {}, api.OK},
		{func(c *api.Config) { c.Up, c.Wait, c.Jobs = 0, 1, 1 }, api.OK},
		{func(c *api.Config) { c.Up, c.Wait, c.Jobs = 8, 1000, 32 }, api.OK},
		{func(c *api.Config) { *c = api.Config{} }, api.ErrArg},
		{func(c *api.Config) { c.Rules = []api.Rule{{Name: "a", Regex: "("}}; c.Up = -1 }, api.ErrMore},
		{func(c *api.Config) { c.Grammar.K = 4; c.Styles[0].Style = 0 }, api.ErrLong},
		{func(c *api.Config) { c.Grammar.Prods = []api.Prod{sample.Prod(0, 0, 1)} }, api.ErrNone},
		{func(c *api.Config) { c.Styles = slices.Repeat(c.Styles, 65); c.Up = -1 }, api.ErrLong},
		{func(c *api.Config) { c.Styles = []api.Style{{}} }, api.ErrArg},
		{func(c *api.Config) { c.Up = -1 }, api.ErrArg},
		{func(c *api.Config) { c.Up = 9 }, api.ErrArg},
		{func(c *api.Config) { c.Wait = 0 }, api.ErrArg},
		{func(c *api.Config) { c.Wait = 1001 }, api.ErrArg},
		{func(c *api.Config) { c.Jobs = 0 }, api.ErrArg},
		{func(c *api.Config) { c.Jobs = 33 }, api.ErrArg},
		{func(c *api.Config) { c.Jobs = math.MinInt }, api.ErrArg},
	} {
		c := c
		c.Styles = slices.Clone(c.Styles)
		x.spoil(&c)
		if got := Check(c); got != x.want {
			t.Errorf("%d: Check: %d, not %d", i, got, x.want)
		}
		s, e := Open(c, strings.Repeat("a", 70000))
		if x.want != api.OK && (s != nil || e != x.want) {
			t.Errorf("%d: Open: %d", i, e)
		}
		s, e = Open(c, "a b")
		if e != x.want || (s != nil) != (e == api.OK) {
			t.Errorf("%d: Open: %d", i, e)
		}
	}
	l, _ := fresh.Build(c.Rules, c.Grammar)
	if s, e := Open(c, strings.Repeat("a", l.Most()+1)); s != nil || e != api.ErrLong {
		t.Error(e)
	}
	if s, e := Open(c, strings.Repeat("a", l.Most())); s == nil || e != api.OK {
		t.Error(e)
	}
}

func TestP27_2Errors(t *testing.T) {
	c := words().config
	s := open(t, c, "a b c")
	s.Edit(1, 0, "c")
	s.View(2, 3)
	s.Tick(1)
	most := s.Lang().Most()
	before, jobs, paid := s.Tree(), s.Jobs(), s.Paid()
	for i, x := range []struct {
		at, del int
		ins     string
		want    api.Errno
	}{
		{-1, 0, "x", api.ErrArg}, {0, -1, "x", api.ErrArg}, {7, 0, "", api.ErrArg}, {6, 1, "", api.ErrArg}, {3, 4, "x", api.ErrArg},
		{math.MaxInt, math.MaxInt, "", api.ErrArg}, {math.MinInt, 0, "", api.ErrArg}, {7, 0, strings.Repeat("x", 70000), api.ErrArg},
		{0, 0, strings.Repeat("x", 70000), api.ErrLong}, {0, 0, strings.Repeat("x", most-5), api.ErrLong}, {0, 1, strings.Repeat("x", most-4), api.ErrLong},
		{0, 0, "", api.OK}, {6, 0, "", api.OK},
	} {
		if e := s.Edit(x.at, x.del, x.ins); e != x.want {
			t.Errorf("%d: Edit: %d, not %d", i, e, x.want)
		}
	}
	for i, x := range [][2]int{{-1, 0}, {2, 1}, {0, 7}, {7, 7}, {math.MinInt, math.MaxInt}} {
		if e := s.View(x[0], x[1]); e != api.ErrArg {
			t.Errorf("%d: View: %d", i, e)
		}
	}
	for i, quota := range []int{-1, math.MinInt, api.MaxQuota + 1, math.MaxInt} {
		if spent, e := s.Tick(quota); spent != 0 || e != api.ErrArg {
			t.Errorf("%d: Tick: %d, %d", i, spent, e)
		}
	}
	if spent, e := s.Tick(0); spent != 0 || e != api.OK {
		t.Error(spent, e)
	}
	if s.Text() != "ac b c" || !tree.Same(s.Tree(), before) || !slices.Equal(s.Jobs(), jobs) || s.Seen() != (api.Span{From: 2, To: 3}) || s.Paid() != paid || paid == 0 {
		t.Error("something has changed:", s.Text(), s.Jobs(), s.Seen(), s.Paid())
	}
	if spent, e := s.Tick(api.MaxQuota); spent < 1 || e != api.OK || len(s.Jobs()) != 0 {
		t.Error(spent, e)
	}
	if spent, e := s.Tick(api.MaxQuota); spent != 0 || e != api.OK {
		t.Error(spent, e)
	}
	if e := s.Edit(0, 0, strings.Repeat("x", most-6)); e != api.OK || len(s.Text()) != most {
		t.Error(e)
	}
	copied := *s
	for i, bad := range []*Session{nil, {}, &copied} {
		spent, e := bad.Tick(-1)
		if bad.Edit(-1, 0, "") != api.ErrNil || bad.View(-1, 0) != api.ErrNil || spent != 0 || e != api.ErrNil || bad.Lang() != nil || bad.Text() != "" || bad.Tree() != nil || bad.Marks() != nil || bad.Jobs() != nil || bad.Seen() != (api.Span{}) || bad.Paid() != 0 {
			t.Errorf("%d: an invalid session does something", i)
		}
	}
}

func TestP27_2Edit(t *testing.T) {
	c := words().config
	c.Jobs = 2
	s := open(t, c, "aa bb cc dd ee ff")
	job := func(slot, from, to, age, level int) api.Dirty {
		return api.Dirty{Slot: slot, Span: api.Span{From: from, To: to}, Age: age, Level: level}
	}
	expect := func(want ...api.Dirty) {
		t.Helper()
		if got := s.Jobs(); !slices.Equal(got, want) {
			t.Fatalf("%v, not %v", got, want)
		}
	}
	met := func(slot int) []int {
		var out []int
		for i, p := range s.Tree() {
			if p.Met>>slot&1 == 1 {
				out = append(out, i)
			}
		}
		return out
	}
	s.View(17, 17)
	s.Edit(1, 0, "x")
	expect(job(0, 1, 2, 0, 0))
	if !slices.Equal(met(0), []int{1, 2}) {
		t.Error("the first word and its nonterminal are met:", met(0))
	}
	s.Edit(17, 1, "")
	expect(job(0, 1, 2, 0, 0), job(1, 17, 17, 0, 0))
	if s.Seen() != (api.Span{From: 17, To: 17}) {
		t.Error(s.Seen())
	}
	// The tick serves slot 1, which is in the view; the other one waits.
	if n, _ := s.Tick(1); n != 1 || s.Paid() != 1 {
		t.Error(n, s.Paid())
	}
	expect(job(0, 1, 2, 1, 0), job(1, 17, 17, 0, 0))
	// A third job has no room: it is joined with the nearest one, whose slot it takes, and whose machine goes.
	s.Edit(12, 0, "y")
	expect(job(0, 1, 2, 1, 0), job(1, 12, 18, 0, 0))
	if s.Paid() != 0 {
		t.Error("the machine of the edit's slot is left:", s.Paid())
	}
	if len(met(2)) != 0 || len(met(1)) < 3 {
		t.Error("bits were not moved:", met(1), met(2))
	}
	check(t, s, c, "axa bb cc ddy ee f")
	for len(s.Jobs()) > 0 {
		s.Tick(1)
	}
	check(t, s, c, "axa bb cc ddy ee f")
}

func TestP27_2Machines(t *testing.T) {
	c := words().config
	c.Up = 3
	s := open(t, c, "aaaa bbbb cccc dddd")
	// An edit of what the run has read: it is lost, and the Level is 0 again.
	s.Edit(6, 0, "x")
	s.Tick(4)
	if s.Paid() != 4 {
		t.Error(s.Paid())
	}
	s.Edit(1, 0, "y")
	if s.Paid() != 4 || len(s.Jobs()) != 2 {
		t.Error("an edit before what the run reads:", s.Paid(), s.Jobs())
	}
	s.Edit(18, 0, "z")
	if s.Paid() != 4 || len(s.Jobs()) != 3 {
		t.Error("an edit after what the run has read:", s.Paid(), s.Jobs())
	}
	// Joined with the edit: its machine is removed.
	s.Edit(7, 0, "w")
	if s.Paid() != 0 || len(s.Jobs()) != 3 {
		t.Error("an edit of its own job:", s.Paid(), s.Jobs())
	}
	check(t, s, c, "ayaaa bwxbbb cccc dzddd")
}

func TestP27_2Levels(t *testing.T) {
	// Sums in parentheses: what is inserted takes the end of the sum with it, so that the target has to go up.
	c := languages()[1].config
	c.Up, c.Jobs = 3, 4
	text := "1+(2+(3+4)+5)+6"
	s := open(t, c, text)
	s.Edit(7, 0, ")")
	text = "1+(2+(3)+4)+5)+6"
	levels := map[int]bool{}
	for len(s.Jobs()) > 0 {
		levels[s.Jobs()[0].Level] = true
		if n, _ := s.Tick(1); n != 1 {
			t.Fatal(n)
		}
		check(t, s, c, text)
	}
	if !levels[0] || !levels[1] || len(levels) > 4 {
		t.Error(levels)
	}
	// With no level up the first target is the root.
	c.Up = 0
	s = open(t, c, "1+2+3")
	s.Edit(4, 1, "4")
	steps := 0
	for len(s.Jobs()) > 0 {
		n, _ := s.Tick(1)
		steps += n
		if len(s.Jobs()) > 0 && (s.Jobs()[0].Level != 0 || s.Paid() != steps) {
			t.Fatal(s.Jobs(), s.Paid(), steps)
		}
	}
	check(t, s, c, "1+2+4")
}

func TestP27_2Waiting(t *testing.T) {
	c := words().config
	c.Wait, c.Jobs = 3, 3
	text := strings.Repeat("abcdefghij ", 30)
	s := open(t, c, text)
	s.Edit(5, 1, "X")
	s.Edit(300, 1, "Y")
	s.View(295, 305)
	ages := ""
	for range 9 {
		s.Tick(1)
		for _, j := range s.Jobs() {
			ages += string(rune('0' + j.Age))
		}
		ages += " "
	}
	// The near one is served until the far one has waited for three ticks.
	if want := "10 20 30 01 10 20 30 01 10 "; ages != want {
		t.Errorf("%q, not %q", ages, want)
	}
}

func TestP27_3ResultsAreNew(t *testing.T) {
	c := words().config
	s := open(t, c, "a b c")
	s.Edit(1, 0, "x")
	l, jobs := s.Tree(), s.Jobs()
	want := tree.Copy(l)
	for i := range l {
		l[i].Met = 99
		for k := range l[i].Kids {
			l[i].Kids[k] = 77
		}
	}
	jobs[0].Age = 1000
	s.Marks()[0] = 9
	c.Rules[0].Regex, c.Grammar.Prods[0].Right[0], c.Styles[0].Style = "", 9, 0
	if !tree.Same(s.Tree(), want) || s.Jobs()[0].Age != 0 {
		t.Error("a result shares memory with the session")
	}
	if n, e := s.Tick(1000); n < 1 || e != api.OK || !fresh.Whole(s.Tree()) {
		t.Error(n, e)
	}
}

func TestLongText(t *testing.T) {
	c := words().config
	text := strings.Repeat("ab cd ", 3000)
	s := open(t, c, text)
	s.Edit(9001, 1, "xyz")
	for range 20000 {
		if s.Tick(1); len(s.Jobs()) == 0 {
			break
		}
	}
	want, _ := s.Lang().Fresh(text[:9001] + "xyz" + text[9002:])
	if len(s.Jobs()) != 0 || !tree.Same(s.Tree(), want) {
		t.Error(s.Jobs())
	}
}

func TestExamples(t *testing.T) {
	c := words().config
	s := open(t, c, "a b")
	if e := s.Edit(1, 0, "c"); e != api.OK {
		t.Error(e)
	}
	if got := s.Jobs(); !slices.Equal(got, []api.Dirty{{Slot: 0, Span: api.Span{From: 1, To: 2}}}) {
		t.Error(got)
	}
	l := s.Tree()
	got := s.Marks()
	want := []int{api.MarkStale, api.MarkStale, api.MarkStale, api.MarkLocal, api.MarkLocal, api.MarkLocal, api.MarkLocal}
	if !slices.Equal(got, want) || l[2].Met != 1 || l[6].Kind != api.PartEnd {
		t.Error(got)
	}
	if spent, e := s.Tick(1000); spent < 1 || spent >= 1000 || e != api.OK {
		t.Error(spent, e)
	}
	fr, _ := s.Lang().Fresh("ac b")
	if !tree.Same(s.Tree(), fr) || len(s.Jobs()) != 0 || marks.Count(s.Marks()) != [4]int{0, 0, 0, 7} {
		t.Error(s.Tree())
	}
	// A tick of one step: one step is used, and the job has not waited.
	s = open(t, c, "a b")
	s.Edit(1, 0, "c")
	if spent, e := s.Tick(1); spent != 1 || e != api.OK || s.Jobs()[0].Age != 0 {
		t.Error(spent, e, s.Jobs())
	}
	c.Grammar.Prods = []api.Prod{sample.Prod(0, 1, 0), sample.Prod(0)}
	if got, e := Open(c, "a b"); got != nil || e != api.ErrBad {
		t.Error(e)
	}
}
