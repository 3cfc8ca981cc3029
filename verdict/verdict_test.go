package verdict

import (
	"math"
	"math/rand"
	"slices"
	"strings"
	"testing"

	"viewport/api"
	"viewport/cost"
	"viewport/fresh"
	"viewport/marks"
	"viewport/sample"
	"viewport/tree"
	"viewport/world"
)

func words() api.Config {
	c := sample.Words().Config(1, 5, 4)
	c.Styles = append(c.Styles, api.Style{Kind: 0, Path: []int{1, 1}, Style: 2, Prio: 1})
	return c
}

// configs returns a configuration for each of the languages.
func configs() []api.Config {
	sums := sample.Sums().Config(2, 2, 2)
	sums.Styles = append(sums.Styles, api.Style{Kind: -1, Style: 9}, api.Style{Kind: 1, Path: []int{4, 5}, Style: 3})
	return []api.Config{words(), sums, sample.Statements().Config(8, 1, 3), sample.Letters().Config(0, 1000, 32)}
}

// randomAct returns an act that may be wrong.
func randomAct(r *rand.Rand, l sample.Language, n int) api.Act {
	a := api.Act{Kind: 1 + r.Intn(4), At: r.Intn(n + 2), Del: r.Intn(4), Ins: l.Text(r.Intn, 4), From: r.Intn(n + 2), Quota: r.Intn(15)}
	a.To = a.From + r.Intn(n+2)
	switch r.Intn(20) {
	case 0:
		a.Kind = r.Intn(9) - 2
	case 1:
		a.Quota = []int{-1, math.MinInt, api.MaxQuota + 1, api.MaxQuota}[r.Intn(4)]
	case 2:
		a.Ins = strings.Repeat("a", api.MaxText)
	}
	return a
}

func TestP30_3(t *testing.T) {
	r := rand.New(rand.NewSource(1))
	for n, c := range configs() {
		l := sample.Languages()[n]
		for range 60 {
			text := l.Text(r.Intn, 30)
			w, e := world.New(c, text)
			if e != api.OK {
				t.Fatal(e)
			}
			var acts []api.Act
			for range 30 {
				a := randomAct(r, l, len(w.Session().Text()))
				acts = append(acts, a)
				w.Do(a)
			}
			if got := Of(c, text, acts); got != (api.Judged{OK: true, At: -1}) {
				t.Fatalf("%q, %v: %v", text, acts, got)
			}
			jobs := len(w.Session().Jobs())
			bound := Bound(w.Session().Lang(), len(w.Session().Text()), jobs, c.Up)
			if _, ok := w.Idle(bound); !ok {
				t.Fatalf("%q, %v: jobs are left after %d steps", text, acts, bound)
			}
		}
	}
}

// script is one that has something of everything, and what is seen of it: an edit, a tick too short for it, paint, an error, the rest, paint.
func script(t *testing.T) (api.Config, string, []api.Seen) {
	t.Helper()
	c, text := words(), "a aa b 1 c"
	l, e := world.Run(c, text, []api.Act{
		{Kind: api.ActView, From: 1, To: 5},
		{Kind: api.ActEdit, At: 6, Ins: "x"},
		{Kind: api.ActTick, Quota: 3},
		{Kind: api.ActPaint, From: 0, To: 11},
		{Kind: api.ActEdit, At: 12},
		{Kind: api.ActTick, Quota: 1000},
		{Kind: api.ActPaint, From: 2, To: 7},
		{Kind: api.ActTick, Quota: 10},
	})
	if e != api.OK || len(l[3].Jobs) != 1 || len(l[5].Jobs) != 0 {
		t.Fatal(e, l)
	}
	return c, text, l
}

// deep copies what is seen, so that it can be spoiled.
func deep(l []api.Seen) []api.Seen {
	l = slices.Clone(l)
	for i := range l {
		l[i].Tree = tree.Copy(l[i].Tree)
		l[i].Marks = slices.Clone(l[i].Marks)
		l[i].Jobs = slices.Clone(l[i].Jobs)
		l[i].Paint = slices.Clone(l[i].Paint)
	}
	return l
}

func TestP30_1Reasons(t *testing.T) {
	c, text, good := script(t)
	if got := Judge(c, text, good); got != (api.Judged{OK: true, At: -1}) {
		t.Fatal(got)
	}
	if got := Judge(c, text, nil); got != (api.Judged{OK: true, At: -1}) {
		t.Fatal(got)
	}
	remark := func(s *api.Seen) { s.Marks = marks.Marks(s.Tree, 1, marks.First(s.Jobs)) }
	for n, x := range []struct {
		at    int
		why   int
		spoil func(s *api.Seen)
	}{
		// 1: its error is another one, or it has an error and something else.
		{1, api.WhyErr, func(s *api.Seen) { s.Err = api.ErrArg }},
		{0, api.WhyErr, func(s *api.Seen) { s.Err = api.ErrNil }},
		{4, api.WhyErr, func(s *api.Seen) { s.Err = api.OK }},
		{4, api.WhyErr, func(s *api.Seen) { s.Err = api.ErrLong }},
		{4, api.WhyErr, func(s *api.Seen) { s.Spent = 1 }},
		{4, api.WhyErr, func(s *api.Seen) { s.Spent = -1 }},
		{4, api.WhyErr, func(s *api.Seen) { s.Paint = []api.Paint{{}} }},
		{4, api.WhyErr, func(s *api.Seen) { s.Text += "x" }},
		{4, api.WhyErr, func(s *api.Seen) { s.Jobs[0].Age++ }},
		{4, api.WhyErr, func(s *api.Seen) { s.Jobs = nil }},
		{4, api.WhyErr, func(s *api.Seen) { s.Tree[0].Look = 9 }},
		{4, api.WhyErr, func(s *api.Seen) { s.Marks[0] = 9 }},
		{2, api.WhyErr, func(s *api.Seen) { s.Act.Quota = -1 }},
		{2, api.WhyErr, func(s *api.Seen) { s.Act.Quota = api.MaxQuota + 1 }},
		{2, api.WhyErr, func(s *api.Seen) { s.Act.Kind = 5 }},
		{2, api.WhyErr, func(s *api.Seen) { s.Act.Kind = 0 }},
		{3, api.WhyErr, func(s *api.Seen) { s.Act.To = 12 }},
		{3, api.WhyErr, func(s *api.Seen) { s.Act.From = -1 }},
		{6, api.WhyErr, func(s *api.Seen) { s.Act.From = 8; s.Act.To = 7 }},
		{0, api.WhyErr, func(s *api.Seen) { s.Act.From = 11; s.Act.To = 11 }},
		{1, api.WhyErr, func(s *api.Seen) { s.Act.At = 11 }},
		{1, api.WhyErr, func(s *api.Seen) { s.Act.Del = 5 }},
		{1, api.WhyErr, func(s *api.Seen) { s.Act.Ins = strings.Repeat("x", api.MaxText) }},
		{1, api.WhyErr, func(s *api.Seen) { s.Act.Ins = strings.Repeat("x", api.MaxText-9) }},
		// 2: its text is another one.
		{1, api.WhyText, func(s *api.Seen) { s.Text = "a aa b 1 c" }},
		{1, api.WhyText, func(s *api.Seen) { s.Text = "a aa bx 1 cc" }},
		{1, api.WhyText, func(s *api.Seen) { s.Act.Ins = "y" }},
		{1, api.WhyText, func(s *api.Seen) { s.Act.Del = 1 }},
		{0, api.WhyText, func(s *api.Seen) { s.Text = "" }},
		{2, api.WhyText, func(s *api.Seen) { s.Text = text }},
		{6, api.WhyText, func(s *api.Seen) { s.Text = strings.ToUpper(s.Text) }},
		// 3: the tree, the jobs or the marks are not valid.
		{1, api.WhyJobs, func(s *api.Seen) { s.Tree[2].Look = 0 }},
		{1, api.WhyJobs, func(s *api.Seen) { s.Tree = nil }},
		{1, api.WhyJobs, func(s *api.Seen) { s.Tree[0].Kind = api.PartNon }},
		{0, api.WhyJobs, func(s *api.Seen) { s.Tree[0].To = 99 }},
		{1, api.WhyJobs, func(s *api.Seen) { s.Tree = s.Tree[1:2]; s.Tree[0].Kids = nil; remark(s) }},
		{1, api.WhyJobs, func(s *api.Seen) { s.Jobs[0].Slot = 64 }},
		{1, api.WhyJobs, func(s *api.Seen) { s.Jobs[0].Age = -1 }},
		{1, api.WhyJobs, func(s *api.Seen) { s.Jobs[0].Slot = 1 }},
		{1, api.WhyJobs, func(s *api.Seen) { s.Jobs = nil; remark(s) }},
		{1, api.WhyJobs, func(s *api.Seen) { s.Tree[0].Met |= 1 << 9; remark(s) }},
		{1, api.WhyJobs, func(s *api.Seen) { s.Marks[1] = api.MarkConfirmed }},
		{1, api.WhyJobs, func(s *api.Seen) { s.Marks = s.Marks[1:] }},
		{1, api.WhyJobs, func(s *api.Seen) { s.Marks = append(s.Marks, 1) }},
		{1, api.WhyJobs, func(s *api.Seen) { s.Jobs[0].Span.From = 0 }},
		{1, api.WhyJobs, func(s *api.Seen) {
			for slot := 1; slot < 5; slot++ {
				s.Jobs = append(s.Jobs, api.Dirty{Slot: slot, Span: api.Span{From: 11, To: 11}})
			}
			remark(s)
		}},
		// 4: what is not stale does not agree with the text.
		{5, api.WhyLocal, func(s *api.Seen) { s.Tree[1].Look++; remark(s) }},
		{5, api.WhyLocal, func(s *api.Seen) { s.Tree[len(s.Tree)-2].Look++; remark(s) }},
		{5, api.WhyLocal, func(s *api.Seen) { s.Tree[2].Sym = 5; remark(s) }},
		{5, api.WhyLocal, func(s *api.Seen) { s.Tree[1].Sym = 2; remark(s) }},
		{5, api.WhyLocal, func(s *api.Seen) { s.Tree[1].Sym = 0; remark(s) }},
		{5, api.WhyLocal, func(s *api.Seen) { s.Tree[1].Sym = math.MinInt; remark(s) }},
		{1, api.WhyLocal, func(s *api.Seen) { s.Tree[len(s.Tree)-2].Look++; remark(s) }},
		{1, api.WhyLocal, func(s *api.Seen) {
			for i := range s.Tree {
				s.Tree[i].Met = 0
			}
			remark(s)
		}},
		// 5: a confirmed leaf is not in the fresh tree, or it is not the fresh one.
		{5, api.WhyFresh, func(s *api.Seen) { s.Tree[len(s.Tree)-1].Look++; remark(s) }},
		{5, api.WhyFresh, func(s *api.Seen) { s.Tree[0].Look++; remark(s) }},
		{5, api.WhyFresh, func(s *api.Seen) { s.Tree[len(s.Tree)-1].Sym = 0; remark(s) }},
		{5, api.WhyFresh, func(s *api.Seen) { s.Tree[0].Sym = 0; remark(s) }},
		{1, api.WhyFresh, func(s *api.Seen) { s.Tree[0].Sym = 0; s.Jobs[0].Span = api.Span{From: 11, To: 11}; remark(s) }},
		{5, api.WhyFresh, func(s *api.Seen) {
			s.Tree = []api.Part{{Sym: api.SymRoot, Kind: api.PartRoot, To: 11, Look: 1, Kids: []int{1}}, {Sym: api.KindEnd, Kind: api.PartEnd, To: 11, In: 11, Look: 12}}
			remark(s)
		}},
		// 6: too many or too few steps, or something changed that must not.
		{2, api.WhySpent, func(s *api.Seen) { s.Spent = 4 }},
		{2, api.WhySpent, func(s *api.Seen) { s.Spent = 2 }},
		{2, api.WhySpent, func(s *api.Seen) { s.Spent = -1 }},
		{5, api.WhySpent, func(s *api.Seen) { s.Spent = 1001 }},
		{7, api.WhySpent, func(s *api.Seen) { s.Spent = 1 }},
		{1, api.WhySpent, func(s *api.Seen) { s.Spent = 1 }},
		{0, api.WhySpent, func(s *api.Seen) { s.Spent = 1 }},
		{3, api.WhySpent, func(s *api.Seen) { s.Spent = -1 }},
		{3, api.WhySpent, func(s *api.Seen) { s.Jobs[0].Age++ }},
		{3, api.WhySpent, func(s *api.Seen) { s.Tree[0].Look = 2 }},
		{0, api.WhySpent, func(s *api.Seen) {
			s.Jobs = []api.Dirty{{Span: api.Span{From: 7, To: 7}}}
			remark(s)
		}},
		// 7: another paint.
		{3, api.WhyPaint, func(s *api.Seen) { s.Paint = nil }},
		{3, api.WhyPaint, func(s *api.Seen) { s.Paint[0].Mark++ }},
		{6, api.WhyPaint, func(s *api.Seen) { s.Paint[1].Style = 7 }},
		{6, api.WhyPaint, func(s *api.Seen) { s.Act.To = 6 }},
		{6, api.WhyPaint, func(s *api.Seen) { s.Paint = append(s.Paint, api.Paint{}) }},
		{7, api.WhyPaint, func(s *api.Seen) { s.Paint = []api.Paint{{}} }},
		{1, api.WhyPaint, func(s *api.Seen) { s.Paint = []api.Paint{{To: 1}} }},
		{0, api.WhyPaint, func(s *api.Seen) { s.Paint = []api.Paint{{To: 1}} }},
	} {
		l := deep(good)
		x.spoil(&l[x.at])
		if got := Judge(c, text, l); got != (api.Judged{Why: x.why, At: x.at}) {
			t.Errorf("%d: %v, not %d at %d", n, got, x.why, x.at)
		}
		if got := Judge(c, text, l[:x.at]); !got.OK {
			t.Errorf("%d: what comes before it: %v", n, got)
		}
	}
	// What does not matter.
	for n, x := range []struct {
		at    int
		spoil func(s *api.Seen)
	}{
		{0, func(s *api.Seen) { s.Act.Quota = -1 }},
		{7, func(s *api.Seen) { s.Act.Quota = 0 }},
		{7, func(s *api.Seen) { s.Act.From = -1 }},
		{2, func(s *api.Seen) { s.Act.Ins = "x" }},
		{5, func(s *api.Seen) { s.Spent = 0 }},
		{0, func(s *api.Seen) { s.Act.Kind = api.ActEdit }},
	} {
		l := deep(good)
		x.spoil(&l[x.at])
		if got := Judge(c, text, l); got.Why != 0 && got.At <= x.at {
			t.Errorf("%d: %v", n, got)
		}
	}
}

func TestP30_1Order(t *testing.T) {
	c, text, good := script(t)
	// Each thing that is spoiled later gives way to what counts before it.
	for n, x := range []struct {
		why   int
		spoil func(s *api.Seen)
	}{
		{api.WhyPaint, func(s *api.Seen) { s.Paint = nil }},
		{api.WhySpent, func(s *api.Seen) { s.Spent = 1 }},
		{api.WhyFresh, func(s *api.Seen) { s.Tree[0].Sym = 0 }},
		{api.WhyLocal, func(s *api.Seen) { s.Tree[2].Sym = 5 }},
		{api.WhyJobs, func(s *api.Seen) { s.Marks[0] = 0 }},
		{api.WhyText, func(s *api.Seen) { s.Text += "c" }},
		{api.WhyErr, func(s *api.Seen) { s.Err = 1 }},
	} {
		l := deep(good)
		x.spoil(&l[6])
		if got := Judge(c, text, l); got != (api.Judged{Why: x.why, At: 6}) {
			t.Errorf("%d: %v", n, got)
		}
		x.spoil(&good[6])
		if got := Judge(c, text, good); got != (api.Judged{Why: x.why, At: 6}) {
			t.Errorf("%d: together with those before: %v", n, got)
		}
	}
	l := deep(good)
	l[7].Err = 1
	if got := Judge(c, text, l); got != (api.Judged{Why: api.WhyErr, At: 6}) {
		t.Error("the first thing counts:", got)
	}
}

func TestP30_1NotValid(t *testing.T) {
	c, text, good := script(t)
	bad := c
	bad.Up = 9
	long := strings.Repeat("a", api.MaxText)
	for i, got := range []api.Judged{Judge(bad, text, good), Judge(bad, text, nil), Judge(c, long, nil), Judge(api.Config{}, "", nil), Of(bad, text, nil), Of(c, long, nil)} {
		if got != (api.Judged{}) {
			t.Errorf("%d: %v", i, got)
		}
	}
	before := deep(good)
	Judge(c, text, good)
	if !slices.EqualFunc(before, good, world.Same) {
		t.Error("an argument has changed")
	}
	// Anything at all may have been seen.
	r := rand.New(rand.NewSource(2))
	for range 300 {
		l := deep(good)
		for range 1 + r.Intn(4) {
			s := &l[r.Intn(len(l))]
			switch r.Intn(6) {
			case 0:
				s.Act = api.Act{Kind: r.Intn(7) - 1, At: math.MaxInt - r.Intn(2), Del: math.MinInt, From: math.MinInt, To: math.MaxInt, Quota: math.MaxInt}
			case 1:
				s.Tree = append(s.Tree[:r.Intn(len(s.Tree)+1)], api.Part{Sym: math.MinInt, Kind: r.Intn(7), To: math.MaxInt, Look: math.MaxInt, Kids: []int{r.Intn(9)}})
			case 2:
				s.Jobs = append(s.Jobs, api.Dirty{Slot: r.Intn(70), Span: api.Span{From: math.MinInt, To: math.MaxInt}})
			case 3:
				s.Text = strings.Repeat("x", r.Intn(1<<17))
			case 4:
				s.Marks = s.Marks[:r.Intn(len(s.Marks)+1)]
			case 5:
				s.Tree, s.Marks, s.Jobs, s.Paint = nil, nil, nil, nil
			}
		}
		Judge(c, text, l)
	}
}

func TestP30_2Line(t *testing.T) {
	for _, x := range []struct {
		j    api.Judged
		want string
	}{
		{api.Judged{OK: true, At: -1}, "ok"}, {api.Judged{OK: true, Why: 3, At: 5}, "ok"}, {api.Judged{}, "why 0"},
		{api.Judged{Why: 1, At: 0}, "err 0"}, {api.Judged{Why: 2, At: 17}, "text 17"}, {api.Judged{Why: 3, At: 1}, "local 1"}, {api.Judged{Why: 4, At: 1}, "fresh 1"},
		{api.Judged{Why: 5, At: 1}, "spent 1"}, {api.Judged{Why: 6, At: 1}, "paint 1"}, {api.Judged{Why: 7, At: 1}, "jobs 1"}, {api.Judged{Why: 8, At: -4}, "why -4"}, {api.Judged{Why: -1, At: math.MinInt}, "why -9223372036854775808"},
	} {
		if got := Line(x.j); got != x.want {
			t.Errorf("Line of %v: %q", x.j, got)
		}
	}
}

func TestP30_2Bound(t *testing.T) {
	for _, c := range configs() {
		g := c.Grammar
		l, _ := fresh.Build(c.Rules, g)
		longest := 0
		for _, p := range g.Prods {
			longest = max(longest, len(p.Right))
		}
		factor := cost.Const(g)*(1+longest) + 2
		for _, x := range [][3]int{{0, 1, 0}, {7, 2, 1}, {1 << 16, 32, 8}, {100, 0, 3}} {
			n, jobs, up := x[0], x[1], x[2]
			if got, want := Bound(l, n, jobs, up), jobs*(up+1)*(factor*(n+1)+(n+1)*(n+1)); got != want {
				t.Errorf("Bound of %v: %d, not %d", x, got, want)
			}
		}
		for _, x := range [][3]int{{-1, 1, 1}, {1, -1, 1}, {1, 1, -1}, {1<<16 + 1, 1, 1}, {1, 33, 1}, {1, 1, 9}, {math.MaxInt, math.MaxInt, math.MaxInt}, {math.MinInt, 1, 1}} {
			if got := Bound(l, x[0], x[1], x[2]); got != 0 {
				t.Errorf("Bound of %v: %d", x, got)
			}
		}
	}
	if Bound(nil, 1, 1, 1) != 0 || Bound(&fresh.Lang{}, 1, 1, 1) != 0 {
		t.Error("no language")
	}
}

func TestLongText(t *testing.T) {
	c := words()
	text := strings.Repeat("ab cd ", 5000)
	acts := []api.Act{{Kind: api.ActEdit, At: 15001, Ins: " x "}, {Kind: api.ActTick, Quota: 50}, {Kind: api.ActEdit, At: 3, Del: 2}, {Kind: api.ActPaint, To: 30000}, {Kind: api.ActTick, Quota: api.MaxQuota}, {Kind: api.ActPaint, To: 30000}}
	if got := Of(c, text, acts); !got.OK {
		t.Error(got)
	}
}

func TestLongestText(t *testing.T) {
	c := words()
	l, _ := fresh.Build(c.Rules, c.Grammar)
	text := strings.Repeat("a", l.Most()-1)
	acts := []api.Act{{Kind: api.ActEdit, Ins: "b"}, {Kind: api.ActEdit, Ins: "b"}, {Kind: api.ActTick, Quota: api.MaxQuota}}
	if got := Of(c, text, acts); !got.OK {
		t.Error(got)
	}
	seen, _ := world.Run(c, text, acts)
	if seen[0].Err != api.OK || seen[1].Err != api.ErrLong {
		t.Error(seen[0].Err, seen[1].Err)
	}
}

func TestExamples(t *testing.T) {
	c, text, l := script(t)
	l[2].Spent = l[2].Act.Quota + 1
	if got := Line(Judge(c, text, l)); got != "spent 2" {
		t.Error(got)
	}
	c, text, l = script(t)
	l[1].Text = "another"
	if got := Line(Judge(c, text, l)); got != "text 1" {
		t.Error(got)
	}
}
