package shift

import (
	"math"
	"math/rand"
	"slices"
	"testing"

	"viewport/api"
)

// edits returns all edits of a text of n bytes that insert at most 3 bytes.
func edits(n int) []api.Edit {
	var l []api.Edit
	for at := 0; at <= n; at++ {
		for del := 0; at+del <= n; del++ {
			for ins := range 4 {
				l = append(l, api.Edit{At: at, Del: del, Ins: ins})
			}
		}
	}
	return l
}

// apply edits a text whose bytes are numbers: those that are inserted are -9.
func apply(text []int, e api.Edit) []int {
	return slices.Concat(text[:e.At], slices.Repeat([]int{-9}, e.Ins), text[e.At+e.Del:])
}

func count(n int) []int {
	var l []int
	for i := range n {
		l = append(l, i)
	}
	return l
}

func TestP10_1Check(t *testing.T) {
	const top = api.MaxText
	for _, x := range []struct {
		e    api.Edit
		n    int
		want api.Errno
	}{
		{api.Edit{}, 0, api.OK}, {api.Edit{}, -1, api.ErrArg}, {api.Edit{}, top, api.OK}, {api.Edit{}, top + 1, api.ErrArg},
		{api.Edit{At: -1}, 5, api.ErrArg}, {api.Edit{Del: -1}, 5, api.ErrArg}, {api.Edit{Ins: -1}, 5, api.ErrArg},
		{api.Edit{At: 5}, 5, api.OK}, {api.Edit{At: 6}, 5, api.ErrArg}, {api.Edit{At: 3, Del: 2}, 5, api.OK}, {api.Edit{At: 3, Del: 3}, 5, api.ErrArg},
		{api.Edit{Ins: 1}, top, api.ErrLong}, {api.Edit{Del: 1, Ins: 1}, top, api.OK}, {api.Edit{Del: 1, Ins: 2}, top, api.ErrLong}, {api.Edit{Ins: top}, 0, api.OK}, {api.Edit{Ins: top + 1}, 0, api.ErrLong},
		{api.Edit{At: 1, Ins: top + 1}, 0, api.ErrArg}, {api.Edit{Ins: math.MaxInt}, 0, api.ErrLong},
		{api.Edit{At: math.MaxInt, Del: math.MaxInt}, 5, api.ErrArg}, {api.Edit{At: 1, Del: math.MaxInt, Ins: math.MaxInt}, 5, api.ErrArg}, {api.Edit{}, math.MaxInt, api.ErrArg}, {api.Edit{}, math.MinInt, api.ErrArg}, {api.Edit{Del: math.MinInt}, 5, api.ErrArg},
	} {
		if got := Check(x.e, x.n); got != x.want {
			t.Errorf("Check(%v, %d): %d, not %d", x.e, x.n, got, x.want)
		}
	}
}

func TestP10_1MeetsAndLen(t *testing.T) {
	const n = 6
	text := count(n)
	for _, e := range edits(n) {
		after := apply(text, e)
		if Len(e, n) != len(after) {
			t.Errorf("Len of %v: %d", e, Len(e, n))
		}
		for from := range n + 1 {
			for to := from; to <= n; to++ {
				removed := false
				for i := from; i < to; i++ {
					removed = removed || !slices.Contains(after, i)
				}
				want := removed || e.Ins > 0 && from < e.At && e.At < to
				// A span without bytes between bytes that go is inside what goes.
				if from == to {
					want = e.Del > 0 && e.At < to && to < e.At+e.Del
				}
				if got := Meets(api.Span{From: from, To: to}, e); got != want {
					t.Errorf("%v meets %d to %d: %v", e, from, to, got)
				}
			}
		}
	}
	if !Meets(api.Span{From: 1, To: 3}, api.Edit{At: 2, Ins: 1}) || Meets(api.Span{From: 1, To: 3}, api.Edit{At: 1, Ins: 1}) || Meets(api.Span{From: 1, To: 3}, api.Edit{At: 3, Ins: 1}) {
		t.Error("bytes are inserted inside a span only between its ends")
	}
	if Meets(api.Span{From: 1, To: 3}, api.Edit{At: 2}) || Meets(api.Span{From: 1, To: 3}, api.Edit{At: 0, Del: 1, Ins: 5}) || Meets(api.Span{From: 1, To: 3}, api.Edit{At: 3, Del: 9}) {
		t.Error("an edit that does not meet the span")
	}
}

func TestP10_2(t *testing.T) {
	const n = 7
	for _, e := range edits(n) {
		after := apply(count(n), e)
		for at := range n + 1 {
			// The place of the byte at the position, and of the byte before it, if the edit leaves them.
			start, end := slices.Index(after, at), slices.Index(after, at-1)+1
			if at == n {
				start = len(after)
				if e.At+e.Del == n && e.Del > 0 {
					start = e.At + e.Ins
				}
			}
			if start < 0 {
				start = e.At + e.Ins
			}
			if at > 0 && end == 0 {
				end = e.At
				if at == e.At+e.Del {
					end += e.Ins
				}
			}
			if got := Start(at, e); got != start {
				t.Errorf("Start of %d, %v: %d, not %d", at, e, got, start)
			}
			if got := End(at, e); got != end {
				t.Errorf("End of %d, %v: %d, not %d", at, e, got, end)
			}
			for to := range n + 1 {
				want := api.Span{From: Start(at, e), To: max(Start(at, e), End(to, e))}
				if got := Move(api.Span{From: at, To: to}, e); got != want {
					t.Errorf("Move of %d to %d, %v: %v", at, to, e, got)
				}
			}
		}
		if got := New(e); got != (api.Span{From: e.At, To: e.At + e.Ins}) {
			t.Errorf("New of %v: %v", e, got)
		}
	}
}

func TestP10_2Table(t *testing.T) {
	e := api.Edit{At: 3, Del: 2, Ins: 4}
	for at, want := range map[int][2]int{2: {2, 2}, 3: {7, 3}, 4: {7, 3}, 5: {7, 7}, 6: {8, 8}, -9: {-9, -9}} {
		if Start(at, e) != want[0] || End(at, e) != want[1] {
			t.Errorf("%d: %d, %d, not %v", at, Start(at, e), End(at, e), want)
		}
	}
	e = api.Edit{At: 3, Ins: 4}
	for at, want := range map[int][2]int{2: {2, 2}, 3: {7, 3}, 4: {8, 8}} {
		if Start(at, e) != want[0] || End(at, e) != want[1] {
			t.Errorf("%d: %d, %d, not %v", at, Start(at, e), End(at, e), want)
		}
	}
}

func TestP10_3(t *testing.T) {
	var all []api.Span
	for from := range 6 {
		for to := from; to < 6; to++ {
			all = append(all, api.Span{From: from, To: to})
		}
	}
	for _, a := range all {
		for _, b := range all {
			far := 0
			if a.To < b.From {
				far = b.From - a.To
			}
			if b.To < a.From {
				far = a.From - b.To
			}
			if Touch(a, b) != (far == 0) || Far(a, b) != far {
				t.Errorf("%v, %v: %v, %d", a, b, Touch(a, b), Far(a, b))
			}
			if got := Join(a, b); got != (api.Span{From: min(a.From, b.From), To: max(a.To, b.To)}) {
				t.Errorf("Join of %v, %v: %v", a, b, got)
			}
		}
	}
}

func TestP10_3Merge(t *testing.T) {
	r := rand.New(rand.NewSource(1))
	for range 500 {
		l := make([]api.Span, r.Intn(9), 12)
		var in [64]bool // positions, and the places between them
		for i := range l {
			from := r.Intn(25)
			l[i] = api.Span{From: from, To: from + r.Intn(6)}
			for p := 2 * l[i].From; p <= 2*l[i].To; p++ {
				in[p] = true
			}
		}
		var want []api.Span
		for p := 0; p < len(in); p++ {
			if in[p] && (p == 0 || !in[p-1]) {
				want = append(want, api.Span{From: p / 2})
			}
			if in[p] {
				want[len(want)-1].To = p / 2
			}
		}
		before := slices.Clone(l)
		if got := Merge(l); !slices.Equal(got, want) {
			t.Fatalf("Merge of %v: %v, not %v", l, got, want)
		}
		if !slices.Equal(before, l) {
			t.Fatal("Merge changed its argument")
		}
	}
	if len(Merge(nil)) != 0 {
		t.Error("Merge of nothing")
	}
	if got := Merge([]api.Span{{From: 4, To: 4}, {From: 0, To: 2}, {From: 3, To: 4}, {From: 2, To: 2}}); !slices.Equal(got, []api.Span{{From: 0, To: 2}, {From: 3, To: 4}}) {
		t.Error(got)
	}
}

func TestNumbersAreBounded(t *testing.T) {
	const b = 1 << 40
	numbers := []int{math.MinInt, math.MinInt + 1, -b - 1, -b, -1, 0, 1, b - 1, b, b + 1, math.MaxInt - 1, math.MaxInt}
	near := func(x int) int { return min(max(x, -b), b) }
	for _, at := range numbers {
		for _, del := range numbers {
			for _, ins := range numbers {
				e, f := api.Edit{At: at, Del: del, Ins: ins}, api.Edit{At: near(at), Del: near(del), Ins: near(ins)}
				if New(e) != New(f) || New(e) != (api.Span{From: f.At, To: f.At + f.Ins}) {
					t.Fatalf("New of %v: %v", e, New(e))
				}
				for _, x := range numbers {
					y := near(x)
					if Start(x, e) != Start(y, f) || End(x, e) != End(y, f) || Len(e, x) != y-f.Del+f.Ins || Check(e, x) != Check(f, y) {
						t.Fatalf("%v, %d", e, x)
					}
					s := api.Span{From: x, To: at}
					if Meets(s, e) != Meets(api.Span{From: y, To: near(at)}, f) || Move(s, e) != Move(api.Span{From: y, To: near(at)}, f) {
						t.Fatalf("%v, %v", e, s)
					}
					for _, to := range numbers {
						s, u := api.Span{From: x, To: to}, api.Span{From: y, To: near(to)}
						removes := f.Del > 0 && f.At < u.To && f.At+f.Del > u.From
						inserts := f.Ins > 0 && u.From < f.At && f.At < u.To
						if Meets(s, e) != (removes || inserts) {
							t.Fatalf("%v, %v", e, s)
						}
					}
				}
			}
		}
	}
	for _, x := range numbers {
		for _, y := range numbers {
			s, u := api.Span{From: x, To: y}, api.Span{From: near(x), To: near(y)}
			for _, z := range numbers {
				v, w := api.Span{From: z, To: z}, api.Span{From: near(z), To: near(z)}
				if Touch(s, v) != Touch(u, w) || Join(s, v) != Join(u, w) || Far(s, v) != Far(u, w) || Far(v, s) != Far(w, u) {
					t.Fatalf("%v, %v", s, v)
				}
			}
			if got := Merge([]api.Span{s}); len(got) != 1 || got[0] != u {
				t.Fatalf("Merge of %v: %v", s, got)
			}
		}
	}
	if Start(math.MaxInt, api.Edit{}) != b || Far(api.Span{From: math.MinInt, To: math.MinInt}, api.Span{From: math.MaxInt, To: math.MaxInt}) != 2*b {
		t.Error("the nearer bound")
	}
}

func TestP10_4(t *testing.T) {
	const n = 7
	for _, e := range edits(n) {
		after := apply(count(n), e)
		for from := range n + 1 {
			if from > 0 && (Start(from-1, e) > Start(from, e) || End(from-1, e) > End(from, e)) {
				t.Errorf("%v changes the order of positions at %d", e, from)
			}
			for to := from; to <= n; to++ {
				s := api.Span{From: from, To: to}
				if Meets(s, e) {
					continue
				}
				m := Move(s, e)
				if m.To-m.From != to-from || !slices.Equal(after[m.From:m.To], count(n)[from:to]) {
					t.Errorf("%v: %v becomes %v", e, s, m)
				}
			}
		}
	}
}

func TestExamples(t *testing.T) {
	e := api.Edit{At: 2, Del: 1, Ins: 3}
	if got := Move(api.Span{From: 0, To: 2}, e); got != (api.Span{From: 0, To: 2}) {
		t.Error(got)
	}
	if got := Move(api.Span{From: 3, To: 5}, e); got != (api.Span{From: 5, To: 7}) {
		t.Error(got)
	}
	if !Meets(api.Span{From: 1, To: 3}, e) {
		t.Error("not met")
	}
}
