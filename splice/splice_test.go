package splice

import (
	"math"
	"math/rand"
	"slices"
	"testing"

	"viewport/api"
	"viewport/sample"
	"viewport/tree"
)

// trees makes trees by chance.
func trees(r *rand.Rand) sample.Trees {
	return sample.Trees{
		Intn: r.Intn,
		Sym:  func() int { return r.Intn(2) },
		Met: func() uint64 {
			if r.Intn(4) == 0 {
				return 1<<r.Intn(3) | 1<<(61+r.Intn(3))
			}
			return 0
		},
		Gaps: false,
	}
}

func randomJobs(r *rand.Rand, n int) []api.Dirty {
	var l []api.Dirty
	for range r.Intn(5) {
		slot := []int{0, 1, 2, 61, 62, 63, -1, 64}[r.Intn(8)]
		from := r.Intn(n + 2)
		l = append(l, api.Dirty{Slot: slot, Span: api.Span{From: from, To: from + r.Intn(n+3) - 1}})
	}
	return l
}

// done tells by the words of the document whether part i does a job.
func done(l []api.Part, i int, j api.Dirty) bool {
	if j.Slot < 0 || j.Slot > 63 || j.Span.From > j.Span.To || j.Span.From < l[i].At || j.Span.To > l[i].To {
		return false
	}
	inside := map[int]bool{i: true}
	for k := range l {
		for _, kid := range l[k].Kids {
			if inside[k] {
				inside[kid] = true
			}
		}
		if l[k].Met&(1<<j.Slot) != 0 && !inside[k] {
			return false
		}
	}
	return true
}

func TestP20_1(t *testing.T) {
	r := rand.New(rand.NewSource(1))
	fitted, spliced, undone := 0, 0, 0
	for range 8000 {
		l := trees(r).Grow(api.PartRoot, 0, 4)
		i := r.Intn(len(l))
		sub := trees(r).Grow(l[i].Kind, l[i].At, 3)
		if r.Intn(2) == 0 {
			sub[0].Sym = l[i].Sym
			if sub[0].Kind <= api.PartNon {
				sub[0].To = max(sub[0].To, l[i].To)
			}
		}
		fits := sub[0].Sym == l[i].Sym && sub[0].To == l[i].To
		if Fits(l, i, sub) != fits {
			t.Fatalf("%v, %d, %v fits: %v", l, i, sub, !fits)
		}
		jobs := randomJobs(r, l[0].To)
		for _, j := range jobs {
			if want := done(l, i, j); Done(l, i, j) != want {
				t.Fatalf("%v, %d, %v is done: %v", l, i, j, !want)
			}
		}
		before, beforeSub, beforeJobs := tree.Copy(l), tree.Copy(sub), slices.Clone(jobs)
		out, slots, e := Splice(l, i, sub, jobs)
		if !tree.Same(l, before) || !tree.Same(sub, beforeSub) || !slices.Equal(jobs, beforeJobs) {
			t.Fatal("Splice changed an argument")
		}
		if !fits {
			if e != api.ErrArg || out != nil || slots != nil {
				t.Fatalf("Splice of what does not fit: %d", e)
			}
			continue
		}
		fitted++
		want, _ := tree.Put(l, i, sub)
		var old uint64
		for _, p := range tree.Sub(l, i) {
			old |= p.Met
		}
		var wantSlots []int
		for _, j := range jobs {
			if done(l, i, j) {
				wantSlots = append(wantSlots, j.Slot)
				old &= ^(uint64(1) << j.Slot)
			}
		}
		if parent := tree.Parents(l)[i]; parent >= 0 {
			want[parent].Met |= old
		} else if Bits(out) != Bits(sub) {
			t.Fatal("P20.3: bits are left after a splice of the first part")
		}
		if e != api.OK || !tree.Same(out, want) || !slices.Equal(slots, wantSlots) {
			t.Fatalf("Splice of %v, %d, %v, %v: %v, %v, %d, not %v, %v", l, i, sub, jobs, out, slots, e, want, wantSlots)
		}
		for _, j := range jobs {
			if i == 0 || j.Slot < 0 || j.Slot > 63 || Bits(l)>>j.Slot&1 == 0 {
				continue
			}
			if slices.Contains(slots, j.Slot) {
				spliced++
			} else if undone++; Bits(out)>>j.Slot&1 == 0 {
				t.Fatal("P20.3: a slot that is not done has no part that it met")
			}
		}
	}
	if fitted < 500 || spliced < 20 || undone < 20 {
		t.Error("few trees fit:", fitted, spliced, undone)
	}
}

func small() []api.Part {
	return []api.Part{
		{Sym: api.SymRoot, Kind: api.PartRoot, To: 3, Look: 1, Kids: []int{1, 3}},
		{Sym: 1, Kind: api.PartNon, To: 2, Look: 3, Kids: []int{2}, Met: 2},
		{Sym: 0, Kind: api.PartTok, To: 2, Look: 3, Met: 1<<63 | 1},
		{Sym: api.KindEnd, Kind: api.PartEnd, At: 2, In: 3, To: 3, Look: 4},
	}
}

func TestP20_1Errors(t *testing.T) {
	l := small()
	sub := tree.Sub(l, 1)
	bad := []api.Part{{}}
	many := []api.Part{{Sym: 1, Kind: api.PartNon, To: 2, Look: 3}}
	for len(many) < api.MaxParts {
		many[0].Kids = append(many[0].Kids, len(many))
		many = append(many, api.Part{Kind: api.PartMissing, Look: 1})
	}
	long := append(slices.Clip(many), many[1])
	for n, x := range []struct {
		l    []api.Part
		i    int
		sub  []api.Part
		want api.Errno
	}{
		{l, 1, sub, api.OK},
		{bad, 1, long, api.ErrArg},
		{nil, 1, sub, api.ErrArg},
		{long, 0, bad, api.ErrLong},
		{l, 9, long, api.ErrLong},
		{l, 1, bad, api.ErrArg},
		{l, 1, nil, api.ErrArg},
		{l, -1, sub, api.ErrArg},
		{l, 4, sub, api.ErrArg},
		{l, math.MaxInt, sub, api.ErrArg},
		{l, 0, sub, api.ErrArg},
		{l, 2, sub, api.ErrArg},
		{l, 1, many, api.ErrLong},
		{l, 2, many, api.ErrArg},
	} {
		out, done, e := Splice(x.l, x.i, x.sub, nil)
		if e != x.want || (e == api.OK) != (len(out) > 0) || len(done) != 0 {
			t.Errorf("%d: %d, not %d", n, e, x.want)
		}
		if fits := x.want == api.OK || n == 12; Fits(x.l, x.i, x.sub) != fits {
			t.Errorf("%d: fits: %v", n, !fits)
		}
	}
	for i, spoil := range []func(p *api.Part){func(p *api.Part) { p.Sym = 2 }, func(p *api.Part) { p.Kind = api.PartRoot }, func(p *api.Part) { p.To = 3 }} {
		s := tree.Copy(sub)
		spoil(&s[0])
		if Fits(l, 1, s) {
			t.Errorf("%d: fits", i)
		}
	}
	moved := tree.Move(sub, 1)
	moved[0].To = 2
	moved[1].To = 2
	if Fits(l, 1, moved) {
		t.Error("a tree at another position fits")
	}
	other := tree.Copy(sub)
	other[0].Look, other[0].Met = 77, 5
	if !Fits(l, 1, other) {
		t.Error("Look and Met do not matter")
	}
}

func TestP20_1Done(t *testing.T) {
	l := small()
	for n, x := range []struct {
		i, slot, from, to int
		want              bool
	}{
		{1, 1, 0, 2, true}, {1, 0, 1, 1, true}, {1, 63, 2, 2, true}, {1, 5, 0, 0, true},
		{2, 0, 0, 2, true}, {2, 63, 0, 2, true}, {2, 1, 0, 2, false},
		{0, 1, 0, 3, true}, {0, 63, 3, 3, true}, {0, 63, 3, 4, false},
		{1, 1, -1, 2, false}, {1, 1, 0, 3, false}, {1, 1, 2, 1, false}, {1, 1, 3, 3, false},
		{3, 5, 2, 3, true}, {3, 1, 2, 3, false}, {3, 5, 1, 3, false},
		{1, -1, 0, 2, false}, {1, 64, 0, 2, false}, {1, math.MaxInt, 0, 2, false}, {1, math.MinInt, 0, 2, false},
		{-1, 1, 0, 2, false}, {4, 1, 0, 2, false}, {math.MaxInt, 1, 0, 2, false},
	} {
		j := api.Dirty{Slot: x.slot, Span: api.Span{From: x.from, To: x.to}, Age: -1, Level: -1}
		if got := Done(l, x.i, j); got != x.want {
			t.Errorf("%d: done: %v", n, got)
		}
	}
	if Done([]api.Part{{}}, 0, api.Dirty{}) || Done(nil, 0, api.Dirty{}) {
		t.Error("done in a tree that is not valid")
	}
}

func TestP20_2(t *testing.T) {
	strange := []api.Part{{Kind: 99, Met: 6, Kids: []int{8}}, {Met: 1 << 63}, {Met: 3}}
	mets := func(l []api.Part) []uint64 {
		var out []uint64
		for _, p := range l {
			out = append(out, p.Met)
		}
		return out
	}
	for slot, want := range map[int][]uint64{0: {6, 1 << 63, 2}, 1: {4, 1 << 63, 1}, 63: {6, 0, 3}, 9: {6, 1 << 63, 3}, -1: {6, 1 << 63, 3}, 64: {6, 1 << 63, 3}, math.MaxInt: {6, 1 << 63, 3}, math.MinInt: {6, 1 << 63, 3}} {
		got := Clear(strange, slot)
		if !slices.Equal(mets(got), want) || got[0].Kind != 99 || got[0].Kids[0] != 8 {
			t.Errorf("Clear %d: %v", slot, got)
		}
		got[0].Kids[0] = 7
	}
	for _, x := range []struct {
		from, to int
		want     []uint64
	}{
		{1, 0, []uint64{5, 1 << 63, 1}}, {0, 1, []uint64{6, 1 << 63, 2}}, {63, 0, []uint64{6, 1, 3}}, {2, 63, []uint64{1<<63 | 2, 1 << 63, 3}},
		{1, 1, []uint64{6, 1 << 63, 3}}, {9, 0, []uint64{6, 1 << 63, 3}}, {1, 64, []uint64{6, 1 << 63, 3}}, {1, -1, []uint64{6, 1 << 63, 3}}, {-1, 1, []uint64{6, 1 << 63, 3}}, {64, 1, []uint64{6, 1 << 63, 3}},
	} {
		got := Give(strange, x.from, x.to)
		if !slices.Equal(mets(got), x.want) {
			t.Errorf("Give %d, %d: %v", x.from, x.to, mets(got))
		}
		got[0].Kids[0] = 7
	}
	if strange[0].Kids[0] != 8 || !slices.Equal(mets(strange), []uint64{6, 1 << 63, 3}) {
		t.Error("an argument has changed")
	}
	if len(Clear(nil, 1)) != 0 || len(Give(nil, 0, 1)) != 0 {
		t.Error("no parts")
	}
	if Bits(small()) != 1<<63|3 || Bits(strange) != 0 || Bits(nil) != 0 {
		t.Error("Bits")
	}
}

func TestExamples(t *testing.T) {
	l := small()
	l[2].Met = 0
	sub := tree.Bare(tree.Sub(l, 1))
	out, done, e := Splice(l, 1, sub, []api.Dirty{{Slot: 1, Span: api.Span{From: 3, To: 3}}})
	if e != api.OK || len(done) != 0 || out[0].Met != 2 || out[1].Met != 0 {
		t.Error(out, done, e)
	}
	out, done, e = Splice(l, 1, sub, []api.Dirty{{Slot: 7, Span: api.Span{}}, {Slot: 1, Span: api.Span{From: 1, To: 2}}})
	if e != api.OK || !slices.Equal(done, []int{7, 1}) || Bits(out) != 0 {
		t.Error(out, done, e)
	}
}
