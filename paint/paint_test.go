package paint

import (
	"math"
	"math/rand"
	"slices"
	"strings"
	"testing"

	"viewport/api"
	"viewport/engine"
	"viewport/sample"
	"viewport/styles"
	"viewport/tree"
)

// trees makes trees by chance.
func trees(r *rand.Rand) sample.Trees {
	return sample.Trees{
		Intn: r.Intn,
		Sym:  func() int { return r.Intn(3) },
		Met:  func() uint64 { return 0 },
		Gaps: true,
	}
}

func randomStyles(r *rand.Rand) []api.Style {
	var l []api.Style
	for range r.Intn(6) {
		s := api.Style{Kind: r.Intn(3), Style: 1 + r.Intn(3), Prio: r.Intn(3)}
		for range r.Intn(4) {
			s.Path = append(s.Path, r.Intn(3))
		}
		l = append(l, s)
	}
	return l
}

// naive paints byte by byte.
func naive(t []api.Part, marks []int, list []api.Style, from, to int) []api.Paint {
	var out []api.Paint
	for at := from; at < to; at++ {
		p := api.Paint{From: at, To: at + 1, Mark: api.MarkStale}
		for _, i := range tree.Leaves(t) {
			if t[i].At <= at && at < t[i].To {
				p.Mark = marks[i]
				if at >= t[i].In {
					p.Style = styles.Leaf(list, t, i)
				}
			}
		}
		if last := len(out) - 1; last >= 0 && out[last].Style == p.Style && out[last].Mark == p.Mark {
			out[last].To = p.To
		} else {
			out = append(out, p)
		}
	}
	return out
}

func TestP28_1(t *testing.T) {
	r := rand.New(rand.NewSource(1))
	for range 1500 {
		l := trees(r).Grow(api.PartRoot+r.Intn(6), 0, 4)
		if l[0].Kind == api.PartMissing {
			continue
		}
		marks := make([]int, len(l))
		for i := range marks {
			marks[i] = r.Intn(4)
		}
		list := randomStyles(r)
		n := l[0].To
		from := r.Intn(n + 1)
		to := from + r.Intn(n-from+1)
		before, beforeMarks := tree.Copy(l), slices.Clone(marks)
		got, e := Of(l, marks, list, from, to)
		if want := naive(l, marks, list, from, to); e != api.OK || !slices.Equal(got, want) {
			t.Fatalf("%v, %v, %v, %d, %d: %v, %d, not %v", l, marks, list, from, to, got, e, want)
		}
		if !Check(got, from, to) {
			t.Fatalf("%v is no paint from %d to %d", got, from, to)
		}
		mid := from + r.Intn(to-from+1)
		a, _ := Of(l, marks, list, from, mid)
		b, _ := Of(l, marks, list, mid, to)
		if joined := Join(a, b); !slices.Equal(joined, got) {
			t.Fatalf("P28.3: %v and %v: %v, not %v", a, b, joined, got)
		}
		if !tree.Same(before, l) || !slices.Equal(marks, beforeMarks) {
			t.Fatal("an argument has changed")
		}
	}
}

func small() []api.Part {
	return []api.Part{
		{Sym: api.SymRoot, Kind: api.PartRoot, To: 9, Look: 1, Kids: []int{1, 3}},
		{Sym: 2, Kind: api.PartNon, At: 1, In: 1, To: 5, Look: 3, Kids: []int{2}},
		{Sym: 0, Kind: api.PartTok, At: 2, In: 3, To: 5, Look: 6},
		{Sym: -1, Kind: api.PartSkip, At: 5, In: 6, To: 8, Look: 9},
	}
}

func TestP28_1Errors(t *testing.T) {
	l := small()
	marks := []int{1, 2, 3, 3}
	late := tree.Move(l, 1)
	for i, x := range []struct {
		l        []api.Part
		marks    []int
		from, to int
		want     api.Errno
	}{
		{l, marks, 0, 9, api.OK}, {l, marks, 9, 9, api.OK}, {l, marks, 4, 4, api.OK},
		{l, marks, -1, 9, api.ErrArg}, {l, marks, 5, 4, api.ErrArg}, {l, marks, 0, 10, api.ErrArg}, {l, marks, 10, 10, api.ErrArg},
		{l, marks, math.MinInt, math.MaxInt, api.ErrArg}, {l, marks[:3], 0, 9, api.ErrArg}, {l, append(slices.Clip(marks), 3), 0, 9, api.ErrArg}, {l, nil, 0, 9, api.ErrArg},
		{late, marks, 1, 5, api.ErrArg}, {nil, nil, 0, 0, api.ErrArg}, {l[:3], marks[:3], 0, 0, api.ErrArg}, {[]api.Part{{}}, []int{1}, 0, 0, api.ErrArg},
	} {
		got, e := Of(x.l, x.marks, nil, x.from, x.to)
		if e != x.want || e != api.OK && got != nil {
			t.Errorf("%d: %v, %d", i, got, e)
		}
	}
	list := []api.Style{{Kind: 0, Path: []int{2}, Style: 4}, {Kind: -1, Path: []int{api.SymRoot}, Style: 5}, {Kind: 0, Path: []int{5, api.SymRoot, 2}, Style: 6, Prio: 9}}
	want := []api.Paint{{From: 0, To: 2, Mark: 1}, {From: 2, To: 3, Mark: 3}, {From: 3, To: 5, Style: 4, Mark: 3}, {From: 5, To: 6, Mark: 3}, {From: 6, To: 8, Style: 5, Mark: 3}, {From: 8, To: 9, Mark: 1}}
	if got, e := Of(l, marks, list, 0, 9); e != api.OK || !slices.Equal(got, want) {
		t.Error(got, e)
	}
}

func config() api.Config {
	return sample.Words().Config(1, 5, 4)
}

func TestP28_1Session(t *testing.T) {
	c := config()
	s, _ := engine.Open(c, "a b 1 c")
	s.Edit(3, 1, "xy")
	got, e := Session(s, c.Styles, 1, 8)
	want, _ := Of(s.Tree(), s.Marks(), c.Styles, 1, 8)
	if e != api.OK || !slices.Equal(got, want) || len(want) < 3 {
		t.Error(got, e, want)
	}
	if got, e := Session(s, c.Styles, 1, 9); got != nil || e != api.ErrArg {
		t.Error(got, e)
	}
	copied := *s
	for i, bad := range []*engine.Session{nil, {}, &copied} {
		if got, e := Session(bad, c.Styles, -1, 9); got != nil || e != api.ErrNil {
			t.Errorf("%d: %v, %d", i, got, e)
		}
	}
}

func TestP28_2Check(t *testing.T) {
	a, b, c := api.Paint{From: 2, To: 4, Style: 1, Mark: 1}, api.Paint{From: 4, To: 5, Style: 2, Mark: 1}, api.Paint{From: 5, To: 9, Style: 2, Mark: 3}
	for i, x := range []struct {
		l        []api.Paint
		from, to int
		want     bool
	}{
		{[]api.Paint{a, b, c}, 2, 9, true}, {[]api.Paint{a, b, c}, 1, 9, false}, {[]api.Paint{a, b, c}, 2, 8, false}, {[]api.Paint{a, b, c}, 2, 10, false},
		{nil, 3, 3, true}, {nil, 3, 4, false}, {nil, 4, 3, false}, {nil, -7, -7, true},
		{[]api.Paint{a, c}, 2, 9, false}, {[]api.Paint{b, a}, 4, 4, false},
		{[]api.Paint{{From: 2, To: 2}}, 2, 2, false}, {[]api.Paint{{From: 2, To: 1}}, 2, 1, false},
		{[]api.Paint{a, {From: 4, To: 5, Style: 1, Mark: 1}}, 2, 5, false}, {[]api.Paint{a, {From: 4, To: 5, Style: 1, Mark: 2}}, 2, 5, true},
		{[]api.Paint{a, b, {From: 5, To: 6, Style: 1, Mark: 1}}, 2, 6, true},
		{[]api.Paint{{From: math.MinInt, To: math.MaxInt}}, math.MinInt, math.MaxInt, true},
	} {
		if got := Check(x.l, x.from, x.to); got != x.want {
			t.Errorf("%d: %v", i, got)
		}
	}
}

func TestP28_2At(t *testing.T) {
	l := []api.Paint{{From: 2, To: 4, Style: 1}, {From: 3, To: 6, Style: 2}, {From: 8, To: 8, Style: 3}, {From: 8, To: 9, Style: 4}}
	for at, want := range map[int]int{1: 0, 2: 1, 3: 1, 4: 2, 5: 2, 6: 0, 8: 4, 9: 0, math.MinInt: 0, math.MaxInt: 0} {
		if got, ok := At(l, at); got.Style != want || ok != (want > 0) || !ok && got != (api.Paint{}) {
			t.Errorf("At %d: %v, %v", at, got, ok)
		}
	}
	if _, ok := At(nil, 0); ok {
		t.Error("At of nothing")
	}
}

func TestP28_2Join(t *testing.T) {
	p := func(from, to, style, mark int) api.Paint {
		return api.Paint{From: from, To: to, Style: style, Mark: mark}
	}
	for i, x := range []struct{ a, b, want []api.Paint }{
		{nil, nil, nil},
		{[]api.Paint{p(0, 1, 1, 1)}, nil, []api.Paint{p(0, 1, 1, 1)}},
		{nil, []api.Paint{p(0, 1, 1, 1)}, []api.Paint{p(0, 1, 1, 1)}},
		{[]api.Paint{p(0, 1, 1, 1)}, []api.Paint{p(1, 3, 1, 1)}, []api.Paint{p(0, 3, 1, 1)}},
		{[]api.Paint{p(0, 1, 1, 1)}, []api.Paint{p(1, 3, 2, 1)}, []api.Paint{p(0, 1, 1, 1), p(1, 3, 2, 1)}},
		{[]api.Paint{p(0, 1, 1, 1)}, []api.Paint{p(1, 3, 1, 2)}, []api.Paint{p(0, 1, 1, 1), p(1, 3, 1, 2)}},
		{[]api.Paint{p(0, 1, 1, 1)}, []api.Paint{p(2, 3, 1, 1)}, []api.Paint{p(0, 1, 1, 1), p(2, 3, 1, 1)}},
		{[]api.Paint{p(0, 1, 2, 1), p(1, 2, 1, 1)}, []api.Paint{p(2, 3, 1, 1), p(3, 4, 2, 1)}, []api.Paint{p(0, 1, 2, 1), p(1, 3, 1, 1), p(3, 4, 2, 1)}},
		// Nothing else becomes one.
		{[]api.Paint{p(0, 1, 1, 1), p(1, 2, 1, 1)}, []api.Paint{p(2, 3, 1, 1), p(3, 4, 1, 1)}, []api.Paint{p(0, 1, 1, 1), p(1, 3, 1, 1), p(3, 4, 1, 1)}},
	} {
		a, b := append(make([]api.Paint, 0, 9), x.a...), append(make([]api.Paint, 0, 9), x.b...)
		got := Join(a, b)
		if !slices.Equal(got, x.want) {
			t.Errorf("%d: %v, not %v", i, got, x.want)
		}
		for j := range got {
			got[j].Style = 77
		}
		if !slices.Equal(a, x.a) || !slices.Equal(b, x.b) || a[:9][8] != (api.Paint{}) {
			t.Errorf("%d: an argument has changed", i)
		}
	}
}

func TestLongText(t *testing.T) {
	c := config()
	text := strings.Repeat("ab ", 12000)
	s, e := engine.Open(c, text)
	if e != api.OK {
		t.Fatal(e)
	}
	got, e := Session(s, append(c.Styles, api.Style{Kind: 0, Path: []int{1, 1, 1}, Style: 2, Prio: 1}), 0, len(text))
	if e != api.OK || len(got) != 24000 || !Check(got, 0, len(text)) || got[0].Style != 1 || got[4].Style != 2 {
		t.Error(len(got), e)
	}
}

func TestExamples(t *testing.T) {
	c := config()
	s, _ := engine.Open(c, "a b")
	got, e := Session(s, c.Styles, 0, 3)
	want := []api.Paint{{From: 0, To: 1, Style: 1, Mark: api.MarkConfirmed}, {From: 1, To: 2, Mark: api.MarkConfirmed}, {From: 2, To: 3, Style: 1, Mark: api.MarkConfirmed}}
	if e != api.OK || !slices.Equal(got, want) {
		t.Error(got, e)
	}
	if got, e := Session(s, c.Styles, 0, 9); got != nil || e != api.ErrArg {
		t.Error(got, e)
	}
	// Words in words have style 2, the first one style 1.
	both := append(slices.Clip(c.Styles), api.Style{Kind: 0, Path: []int{1, 1}, Style: 2, Prio: 1})
	got, _ = Session(s, both, 0, 3)
	if len(got) != 3 || got[0].Style != 1 || got[2].Style != 2 {
		t.Error(got)
	}
}
