package world

import (
	"math"
	"math/rand"
	"slices"
	"strings"
	"testing"

	"viewport/api"
	"viewport/engine"
	"viewport/paint"
	"viewport/parts"
	"viewport/sample"
)

func config() api.Config {
	c := sample.Words().Config(1, 5, 4)
	c.Styles = append(c.Styles, api.Style{Kind: 0, Path: []int{1, 1}, Style: 2, Prio: 1})
	return c
}

func edit(at, del int, ins string) api.Act {
	return api.Act{Kind: api.ActEdit, At: at, Del: del, Ins: ins}
}

func tick(quota int) api.Act { return api.Act{Kind: api.ActTick, Quota: quota} }

func view(from, to int) api.Act { return api.Act{Kind: api.ActView, From: from, To: to} }

func query(from, to int) api.Act { return api.Act{Kind: api.ActPaint, From: from, To: to} }

// random returns an act that may be wrong.
func random(r *rand.Rand, n int) api.Act {
	a := api.Act{Kind: 1 + r.Intn(4), At: r.Intn(n + 2), Del: r.Intn(4), From: r.Intn(n + 2), Quota: r.Intn(12)}
	a.To = a.From + r.Intn(n+2)
	a.Ins = strings.Repeat(string("ab 1"[r.Intn(4)]), r.Intn(3))
	if r.Intn(15) == 0 {
		a.Kind, a.Quota = r.Intn(8)-1, -1
	}
	return a
}

func TestP29_1(t *testing.T) {
	r := rand.New(rand.NewSource(1))
	c := config()
	for range 60 {
		text := "ab c 1 d"[:r.Intn(9)]
		w, e := New(c, text)
		s, _ := engine.Open(c, text)
		if e != api.OK {
			t.Fatal(e)
		}
		var acts []api.Act
		var all []api.Seen
		steps := 0
		for range 40 {
			a := random(r, len(s.Text()))
			want := api.Seen{Act: a}
			switch a.Kind {
			case api.ActEdit:
				want.Err = s.Edit(a.At, a.Del, a.Ins)
			case api.ActView:
				want.Err = s.View(a.From, a.To)
			case api.ActTick:
				want.Spent, want.Err = s.Tick(a.Quota)
				steps += want.Spent
			case api.ActPaint:
				want.Paint, want.Err = paint.Session(s, c.Styles, a.From, a.To)
			default:
				want.Err = api.ErrArg
			}
			want.Text, want.Tree, want.Marks, want.Jobs = s.Text(), s.Tree(), s.Marks(), s.Jobs()
			got := w.Do(a)
			if !Same(got, want) || !Same(want, got) {
				t.Fatalf("Do %v:\n%v\nnot\n%v", a, got, want)
			}
			if w.Steps() != steps || w.Session().Seen() != s.Seen() {
				t.Fatalf("%d steps, not %d", w.Steps(), steps)
			}
			acts, all = append(acts, a), append(all, want)
		}
		got, e := Run(c, text, acts)
		if e != api.OK || !slices.EqualFunc(got, all, Same) {
			t.Fatalf("P29.3: Run: %d", e)
		}
	}
}

func TestP29_1Errors(t *testing.T) {
	c := config()
	bad := c
	bad.Wait = 0
	if w, e := New(bad, "a"); w != nil || e != api.ErrArg {
		t.Error(e)
	}
	if got, e := Run(bad, "a", []api.Act{tick(1)}); got != nil || e != api.ErrArg {
		t.Error(e)
	}
	if got, e := Run(c, strings.Repeat("a", api.MaxText), nil); got != nil || e != api.ErrLong {
		t.Error(e)
	}
	if got, e := Run(c, "a", nil); len(got) != 0 || e != api.OK {
		t.Error(got, e)
	}
	w, _ := New(c, "a b")
	before := w.Do(query(0, 3))
	for i, x := range []struct {
		a    api.Act
		want api.Errno
	}{
		{api.Act{}, api.ErrArg}, {api.Act{Kind: 5}, api.ErrArg}, {api.Act{Kind: -1}, api.ErrArg}, {api.Act{Kind: math.MaxInt}, api.ErrArg},
		{edit(4, 0, "x"), api.ErrArg}, {edit(0, 0, strings.Repeat("x", 1<<17)), api.ErrLong}, {view(0, 4), api.ErrArg}, {tick(-1), api.ErrArg}, {tick(api.MaxQuota + 1), api.ErrArg}, {query(0, 9), api.ErrArg}, {query(2, 1), api.ErrArg},
	} {
		got := w.Do(x.a)
		want := before
		want.Act, want.Err, want.Paint = x.a, x.want, nil
		if !Same(got, want) {
			t.Errorf("%d: %v", i, got)
		}
	}
	copied := *w
	for i, bad := range []*World{nil, {}, &copied} {
		a := edit(1, 0, "x")
		ticks, ok := bad.Idle(9)
		if got := bad.Do(a); !Same(got, api.Seen{Act: a, Err: api.ErrNil}) || bad.Session() != nil || bad.Steps() != 0 || ticks != 0 || ok {
			t.Errorf("%d: an invalid world does something", i)
		}
	}
	if w.Session().Text() != "a b" {
		t.Error("a copy is a world")
	}
}

func TestP29_1KeepsNothing(t *testing.T) {
	c := config()
	w, _ := New(c, "a b")
	before := w.Do(query(0, 3))
	c.Styles[1].Path[0], c.Styles[0].Style = 7, 9
	before.Tree[0].Kids[0], before.Marks[0] = 5, 9
	after := w.Do(query(0, 3))
	want := []api.Paint{{From: 0, To: 1, Style: 1, Mark: 3}, {From: 1, To: 2, Mark: 3}, {From: 2, To: 3, Style: 2, Mark: 3}}
	if !slices.Equal(after.Paint, want) || after.Tree[0].Kids[0] != 1 || after.Marks[0] != 3 {
		t.Error(after)
	}
}

func TestP29_1Same(t *testing.T) {
	one := func() api.Seen {
		return api.Seen{Act: edit(1, 2, "x"), Spent: 3, Paint: []api.Paint{{To: 1}}, Text: "a", Tree: []api.Part{{Kind: 1, Kids: []int{1}}, {Kind: 2}}, Marks: []int{1, 2}, Jobs: []api.Dirty{{Slot: 1}}}
	}
	if !Same(one(), one()) || !Same(api.Seen{}, api.Seen{Paint: []api.Paint{}, Tree: []api.Part{}, Marks: []int{}, Jobs: []api.Dirty{}}) {
		t.Error("not the same")
	}
	for i, spoil := range []func(s *api.Seen){
		func(s *api.Seen) { s.Act.Ins = "y" }, func(s *api.Seen) { s.Act.Quota = 1 }, func(s *api.Seen) { s.Err = 1 }, func(s *api.Seen) { s.Spent++ },
		func(s *api.Seen) { s.Paint[0].Mark = 1 }, func(s *api.Seen) { s.Paint = nil }, func(s *api.Seen) { s.Text = "b" },
		func(s *api.Seen) { s.Tree[1].Met = 1 }, func(s *api.Seen) { s.Tree[0].Kids[0] = 2 }, func(s *api.Seen) { s.Tree[0].Look = 2 }, func(s *api.Seen) { s.Tree = s.Tree[:1] },
		func(s *api.Seen) { s.Marks[1] = 3 }, func(s *api.Seen) { s.Jobs[0].Age = 1 }, func(s *api.Seen) { s.Jobs = nil },
	} {
		other := one()
		spoil(&other)
		if Same(one(), other) || Same(other, one()) {
			t.Errorf("%d: the same", i)
		}
	}
}

func TestP29_2(t *testing.T) {
	w, _ := New(config(), "a b c")
	if n, ok := w.Idle(5); n != 0 || !ok {
		t.Error("nothing is pending:", n, ok)
	}
	w.Do(edit(1, 0, "x"))
	for _, most := range []int{0, -1, math.MinInt} {
		if n, ok := w.Idle(most); n != 0 || ok {
			t.Error(most, n, ok)
		}
	}
	if n, ok := w.Idle(2); n != 2 || ok || w.Steps() != 2 {
		t.Error(n, ok, w.Steps())
	}
	n, ok := w.Idle(math.MaxInt)
	if n < 1 || !ok || w.Steps() != n+2 || len(w.Session().Jobs()) != 0 {
		t.Error(n, ok, w.Steps())
	}
	// As many ticks as that are enough for the same edit, but not one less.
	for less := range 2 {
		w, _ := New(config(), "a b c")
		w.Do(edit(1, 0, "x"))
		if got, ok := w.Idle(n + 2 - less); got != n+2-less || ok != (less == 0) {
			t.Error(less, got, ok)
		}
	}
}

func TestP29_3(t *testing.T) {
	r := rand.New(rand.NewSource(2))
	c := config()
	for range 150 {
		text := "ab c 1 d"[:r.Intn(9)]
		w, _ := New(c, text)
		v, _ := New(c, text)
		for range 20 {
			n := len(w.Session().Text())
			at := r.Intn(n + 1)
			a := edit(at, r.Intn(min(3, n-at)+1), strings.Repeat(string("ab 1"[r.Intn(4)]), r.Intn(3)))
			w.Do(a)
			v.Do(a)
			w.Do(tick(r.Intn(9)))
			v.Do(view(r.Intn(2), len(v.Session().Text())))
		}
		for len(v.Session().Jobs()) > 0 {
			v.Do(tick(r.Intn(40)))
		}
		if _, ok := w.Idle(100000); !ok || !parts.Same(w.Session().Tree(), v.Session().Tree()) {
			t.Fatalf("two scripts with the same edits: %v\n%v", w.Session().Tree(), v.Session().Tree())
		}
	}
}

func TestExamples(t *testing.T) {
	got, e := Run(config(), "a b", []api.Act{edit(1, 0, "c"), tick(1000), query(0, 4)})
	if e != api.OK || len(got) != 3 {
		t.Fatal(got, e)
	}
	if got[0].Err != api.OK || got[0].Text != "ac b" || len(got[0].Jobs) != 1 || got[1].Spent < 1 || len(got[1].Jobs) != 0 {
		t.Error(got)
	}
	if want := []api.Paint{{From: 0, To: 2, Style: 1, Mark: 3}, {From: 2, To: 3, Mark: 3}, {From: 3, To: 4, Style: 2, Mark: 3}}; !slices.Equal(got[2].Paint, want) {
		t.Error(got[2].Paint)
	}
}
