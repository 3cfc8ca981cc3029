package tree

import (
	"math"
	"math/rand"
	"slices"
	"testing"

	"viewport/api"
	"viewport/sample"
	"viewport/shift"
)

// trees makes trees by chance.
func trees(r *rand.Rand) sample.Trees {
	return sample.Trees{
		Intn: r.Intn,
		Sym:  func() int { return r.Intn(4) },
		Met:  func() uint64 { return uint64(r.Intn(4)) >> 1 },
		Gaps: true,
	}
}

func part(kind, sym, at, in, to, look int, kids ...int) api.Part {
	return api.Part{Kind: kind, Sym: sym, At: at, In: in, To: to, Look: look, Kids: kids}
}

// small is the tree of a b, as layer 17 makes it: a root, 0, a, 0, b, 0, the end.
func small() []api.Part {
	return []api.Part{
		part(api.PartRoot, api.SymRoot, 0, 0, 3, 1, 1, 6),
		part(api.PartNon, 1, 0, 0, 3, 2, 2, 3),
		part(api.PartTok, 0, 0, 0, 1, 2),
		part(api.PartNon, 1, 1, 1, 3, 4, 4, 5),
		part(api.PartTok, 0, 1, 2, 3, 4),
		part(api.PartNon, 1, 3, 3, 3, 4),
		part(api.PartEnd, api.KindEnd, 3, 3, 3, 4),
	}
}

func random(r *rand.Rand) []api.Part {
	if r.Intn(4) == 0 {
		return trees(r).Grow(api.PartNon, r.Intn(3), 4)
	}
	return trees(r).Grow(api.PartRoot, 0, 4)
}

// inside tells by recursion over children which parts are part i or inside it.
func inside(l []api.Part, i int) []int {
	out := []int{i}
	for _, k := range l[i].Kids {
		out = append(out, inside(l, k)...)
	}
	return out
}

func TestP16_1Check(t *testing.T) {
	if Check(small()) != api.OK {
		t.Fatal("the sample")
	}
	most := []api.Part{part(api.PartRoot, 0, 0, 0, 0, 1)}
	for i := 1; i < api.MaxParts; i++ {
		most = append(most, part(api.PartMissing, 0, 0, 0, 0, 1))
		most[0].Kids = append(most[0].Kids, i)
	}
	if Check(most) != api.OK {
		t.Error("as many parts as there may be")
	}
	most = append(most, part(api.PartMissing, 0, 0, 0, 0, 1))
	if Check(most) != api.ErrLong {
		t.Error("too many parts")
	}
	if Check(nil) != api.ErrArg || Check([]api.Part{}) != api.ErrArg {
		t.Error("no parts")
	}
	for i, spoil := range []func(l []api.Part){
		func(l []api.Part) { l[0].Kind = 0 },
		func(l []api.Part) { l[2].Kind = 7 },
		func(l []api.Part) { l[2].Kind = -1 },
		func(l []api.Part) { l[1].Kind = api.PartRoot },
		func(l []api.Part) { l[0].At, l[0].In = -1, -1 },
		func(l []api.Part) { l[5].To = 2 },
		func(l []api.Part) { l[2].Look = 0 },
		func(l []api.Part) { l[5].Look = 3 },
		func(l []api.Part) { l[0].Look = 0 },
		func(l []api.Part) { l[2].In = 2 },
		func(l []api.Part) { l[4].In = 0 },
		func(l []api.Part) { l[1].In = 1 },
		func(l []api.Part) { l[0].In = 1 },
		func(l []api.Part) { l[5].In = 4 },
		func(l []api.Part) { l[6].In = 2 },
		func(l []api.Part) { l[4].Kind = api.PartMissing; l[4].In = 1 },
		func(l []api.Part) { l[2].Kind = api.PartMissing },
		func(l []api.Part) { l[5].Kind = api.PartMissing; l[5].In = 4 },
		func(l []api.Part) { l[1].Kind = api.PartTok },
		func(l []api.Part) { l[1].Kind = api.PartSkip },
		func(l []api.Part) { l[1].Kind = api.PartEnd },
		func(l []api.Part) { l[1].Kind = api.PartMissing; l[1].To = 0 },
		func(l []api.Part) { l[1].Kids = []int{2} },
		func(l []api.Part) { l[1].Kids = []int{3, 2} },
		func(l []api.Part) { l[1].Kids = []int{2, 3, 3} },
		func(l []api.Part) { l[1].Kids = []int{2, 4} },
		func(l []api.Part) { l[0].Kids = []int{1} },
		func(l []api.Part) { l[0].Kids = []int{1, 6, 7} },
		func(l []api.Part) { l[0].Kids = []int{1, -6} },
		func(l []api.Part) { l[0].Kids = []int{0, 1, 6} },
		func(l []api.Part) { l[0].Kids = []int{1, 1 << 60} },
		func(l []api.Part) { l[0].Kids = nil },
		func(l []api.Part) { l[3].Kids = []int{4}; l[1].Kids = []int{2, 3, 5}; l[2].Kids = []int{3} },
		func(l []api.Part) { l[2].To = 2 },
		func(l []api.Part) { l[4].At = 0 },
		func(l []api.Part) { l[5].To = 4 },
		func(l []api.Part) { l[6].To = 4 },
		func(l []api.Part) { l[3].To = 4 },
		func(l []api.Part) { l[1].At, l[1].In = 1, 1 },
		func(l []api.Part) { l[6].At = 2 },
	} {
		l := small()
		spoil(l)
		if got := Check(l); got != api.ErrArg {
			t.Errorf("%d: Check: %d", i, got)
		}
		put, e1 := Put(l, 0, small())
		put2, e2 := Put(small(), 0, l)
		found, ok := Find(l, 1, 0)
		if End(l, 0) != 0 || len(Sub(l, 0)) != 0 || len(Parents(l)) != 0 || len(Path(l, 0)) != 0 || len(Leaves(l)) != 0 || len(put) != 0 || e1 != api.ErrArg || len(put2) != 0 || e2 != api.ErrArg || found != 0 || ok || len(Bare(l)) != 0 || len(Move(l, 0)) != 0 || len(Edit(l, api.Edit{}, 1)) != 0 || len(Stale(l)) != 0 {
			t.Errorf("%d: a tree that is not valid is used", i)
		}
	}
	for i, spoil := range []func(l []api.Part){
		func(l []api.Part) { l[0].To = 9 },
		func(l []api.Part) { l[2].To = 0 },
		func(l []api.Part) { l[4].At = 2 },
		func(l []api.Part) { l[4].Sym, l[0].Sym = -77, 5 },
		func(l []api.Part) { l[0].Kind = api.PartNon },
		func(l []api.Part) { l[5].Kind = api.PartMissing },
		func(l []api.Part) { l[6].Kind = api.PartSkip },
		func(l []api.Part) { l[2].Look = math.MaxInt },
		func(l []api.Part) { l[3].Kids = []int{4}; l[1].Kids = []int{2, 3, 5} },
		func(l []api.Part) { l[1].Kids = []int{2, 3, 6}; l[0].Kids = []int{1} },
	} {
		l := small()
		spoil(l)
		if got := Check(l); got != api.OK {
			t.Errorf("%d: Check: %d", i, got)
		}
	}
}

func TestP16_1Places(t *testing.T) {
	r := rand.New(rand.NewSource(1))
	for range 800 {
		l := random(r)
		if Check(l) != api.OK {
			t.Fatal(l)
		}
		parents := Parents(l)
		var leaves []int
		for i, p := range l {
			all := inside(l, i)
			if End(l, i) != i+len(all) {
				t.Fatalf("End of %d: %d, not %d", i, End(l, i), i+len(all))
			}
			sub := Sub(l, i)
			if Check(sub) != api.OK || len(sub) != len(all) {
				t.Fatalf("Sub of %d: %v", i, sub)
			}
			for j, q := range sub {
				for n := range q.Kids {
					q.Kids[n] += i
				}
				if !Same([]api.Part{q}, []api.Part{l[i+j]}) {
					t.Fatalf("Sub of %d: %v", i, sub)
				}
			}
			parent := slices.IndexFunc(l, func(p api.Part) bool { return slices.Contains(p.Kids, i) })
			if parents[i] != parent {
				t.Fatalf("the parent of %d: %d, not %d", i, parents[i], parent)
			}
			path := []int{}
			for at := i; at >= 0; at = parents[at] {
				path = append([]int{l[at].Sym}, path...)
			}
			if got := Path(l, i); !slices.Equal(got, path) {
				t.Fatalf("Path of %d: %v, not %v", i, got, path)
			}
			if p.Kind > api.PartNon {
				leaves = append(leaves, i)
			}
			first := slices.IndexFunc(l, func(q api.Part) bool {
				return q.Kind <= api.PartNon && q.Sym == p.Sym && q.At == p.At
			})
			if got, ok := Find(l, p.Sym, p.At); got != max(first, 0) || ok != (first >= 0) {
				t.Fatalf("Find %d, %d: %d, %v, not %d", p.Sym, p.At, got, ok, first)
			}
		}
		if got := Leaves(l); !slices.Equal(got, leaves) {
			t.Fatalf("Leaves: %v, not %v", got, leaves)
		}
		if got, ok := Find(l, 99, 0); got != 0 || ok {
			t.Fatal(got, ok)
		}
	}
	l := small()
	for _, i := range []int{-1, 7, math.MaxInt, math.MinInt} {
		put, e := Put(l, i, small())
		if End(l, i) != 0 || len(Sub(l, i)) != 0 || len(Path(l, i)) != 0 || len(put) != 0 || e != api.ErrArg {
			t.Errorf("there is no part %d", i)
		}
	}
}

func TestP16_2Put(t *testing.T) {
	r := rand.New(rand.NewSource(2))
	for range 800 {
		l := random(r)
		i := r.Intn(len(l))
		got, e := Put(l, i, Sub(l, i))
		if e != api.OK || !Same(got, l) {
			t.Fatalf("P16.3: Put of Sub: %d", e)
		}
		sub := trees(r).Grow(l[i].Kind, l[i].At, 3)
		fits := sub[0].Sym == l[i].Sym && sub[0].To == l[i].To
		if r.Intn(2) == 0 && sub[0].To <= l[i].To && l[i].Kind <= api.PartNon {
			sub[0].Sym, sub[0].To, fits = l[i].Sym, l[i].To, true
		}
		before, beforeSub := Copy(l), Copy(sub)
		got, e = Put(l, i, sub)
		if !Same(l, before) || !Same(sub, beforeSub) {
			t.Fatal("Put changed an argument")
		}
		if !fits {
			if e != api.ErrArg || len(got) != 0 {
				t.Fatalf("Put of what does not fit: %d", e)
			}
			continue
		}
		if e != api.OK || Check(got) != api.OK || len(got) != len(l)-len(inside(l, i))+len(sub) || !Same(Sub(got, i), sub) {
			t.Fatalf("Put: %v, %d", got, e)
		}
		// What is outside is as it was: it is what is left if the old part is put there again.
		if back, e := Put(got, i, Sub(l, i)); e != api.OK || !Same(back, l) {
			t.Fatalf("Put and back: %v", back)
		}
	}
}

func TestP16_2PutErrors(t *testing.T) {
	l := small()
	sub := Sub(l, 3)
	for i, spoil := range []func(p *api.Part){
		func(p *api.Part) { p.Sym = 2 },
		func(p *api.Part) { p.Kind = api.PartRoot },
		func(p *api.Part) { p.At, p.In = 0, 0 },
		func(p *api.Part) { p.To = 4 },
	} {
		s := Copy(sub)
		spoil(&s[0])
		if got, e := Put(l, 3, s); e != api.ErrArg || len(got) != 0 {
			t.Errorf("%d: %d", i, e)
		}
	}
	other := Copy(sub)
	other[0].Look, other[0].Met = 99, 7
	if got, e := Put(l, 3, other); e != api.OK || got[3].Look != 99 || got[3].Met != 7 {
		t.Errorf("Look and Met do not matter: %d", e)
	}
	many := []api.Part{part(api.PartNon, 1, 3, 3, 3, 4)}
	for i := 1; i < api.MaxParts; i++ {
		many = append(many, part(api.PartMissing, 0, 3, 3, 3, 4))
		many[0].Kids = append(many[0].Kids, i)
	}
	if got, e := Put(l, 5, many); e != api.ErrLong || len(got) != 0 {
		t.Errorf("too many parts: %d", e)
	}
	if got, e := Put(l, 4, many); e != api.ErrArg || len(got) != 0 {
		t.Errorf("ErrArg comes first: %d", e)
	}
	fewer := many[:len(many)-6]
	fewer[0].Kids = fewer[0].Kids[:len(fewer)-1]
	if got, e := Put(l, 5, fewer); e != api.OK || len(got) != api.MaxParts {
		t.Errorf("as many parts as there may be: %d", e)
	}
	tooLong := append(slices.Clip(many), many[1])
	if _, e := Put(tooLong, 0, nil); e != api.ErrLong {
		t.Error(e)
	}
	if _, e := Put(l, 0, tooLong); e != api.ErrLong {
		t.Error(e)
	}
	if _, e := Put(nil, 0, tooLong); e != api.ErrArg {
		t.Error(e)
	}
}

func TestP16_2MoveAndBare(t *testing.T) {
	r := rand.New(rand.NewSource(3))
	for range 300 {
		l := random(r)
		bare := Bare(l)
		for i := range bare {
			if bare[i].Met != 0 {
				t.Fatal("Met is not 0")
			}
			bare[i].Met = l[i].Met
		}
		if !Same(bare, l) {
			t.Fatal("Bare changed more than Met")
		}
		by := r.Intn(9) - l[0].At
		m := Move(l, by)
		for i, p := range l {
			p.At, p.In, p.To, p.Look = p.At+by, p.In+by, p.To+by, p.Look+by
			if !Same(m[i:i+1], []api.Part{p}) {
				t.Fatalf("Move by %d: %v", by, m[i])
			}
		}
		if back := Move(m, -by); !Same(back, l) {
			t.Fatal("P16.3: a tree that is moved and moved back")
		}
		if got := Move(l, -l[0].At-1); len(got) != 0 {
			t.Fatal("a tree before the beginning")
		}
	}
	l := small()
	if got := Move(l, 1<<40); len(got) != 7 || got[4].In != 1<<40+2 {
		t.Error(got)
	}
	far := Move(l, 1<<40)
	if got := Move(far, -1<<40); !Same(got, l) {
		t.Error(got)
	}
	farther := Move(far, 1<<40)
	for _, by := range []int{1<<40 + 1, -1<<40 - 1, math.MaxInt, math.MinInt} {
		if len(Move(l, by)) != 0 || len(Move(far, by)) != 0 || len(Move(farther, by)) != 0 {
			t.Error(by)
		}
	}
	l[2].Look = math.MaxInt
	if len(Move(l, 1)) != 0 || len(Move(l, 0)) != 7 {
		t.Error("a position that cannot be")
	}
}

func TestP16_2CopyAndSame(t *testing.T) {
	strange := []api.Part{{Kids: []int{9, -9}, Met: 5}, {Kind: 99}}
	for _, l := range [][]api.Part{small(), strange, nil} {
		c := Copy(l)
		if !Same(c, l) || !Same(l, c) {
			t.Error(c)
		}
		for i := range c {
			c[i].Sym++
			for j := range c[i].Kids {
				c[i].Kids[j]++
			}
		}
		if len(l) > 0 && (Same(c, l) || l[0].Kids[0] != Copy(l)[0].Kids[0]) {
			t.Error("a copy shares memory")
		}
	}
	for i, spoil := range []func(p *api.Part){
		func(p *api.Part) { p.Sym++ }, func(p *api.Part) { p.Kind++ }, func(p *api.Part) { p.At++ }, func(p *api.Part) { p.In++ },
		func(p *api.Part) { p.To++ }, func(p *api.Part) { p.Look++ }, func(p *api.Part) { p.Met++ }, func(p *api.Part) { p.Kids = p.Kids[1:] },
	} {
		l := small()
		spoil(&l[3])
		if Same(l, small()) || Same(small(), l) {
			t.Errorf("%d: the same", i)
		}
	}
	if Same(small(), small()[:6]) || !Same(nil, []api.Part{}) || !Same([]api.Part{{}}, []api.Part{{Kids: []int{}}}) {
		t.Error("Same")
	}
}

// naiveEdit is the edit by the words of the document, part by part.
func naiveEdit(l []api.Part, i int, e api.Edit, bit uint64) api.Part {
	p := l[i]
	q := p
	span := api.Span{From: p.At, To: p.Look}
	if p.Kind == api.PartRoot {
		span.From = -1
	}
	met := shift.Meets(span, e)
	if met {
		q.Met |= bit
	}
	q.At = shift.Start(p.At, e)
	if p.Kind == api.PartRoot {
		q.At = 0
	}
	q.To = shift.End(p.To, e)
	if p.Kind == api.PartRoot {
		q.To = p.To - e.Del + e.Ins
	}
	q.To = max(q.To, q.At)
	for _, k := range p.Kids {
		q.To = max(q.To, naiveEdit(l, k, e, bit).To)
	}
	if p.In == p.At {
		q.In = q.At
	} else {
		q.In = min(max(shift.Start(p.In, e), q.At), q.To)
	}
	q.Look = max(shift.End(p.Look, e), q.At+1)
	if met {
		q.Look = max(q.Look, e.At+1)
	}
	if p.Kind == api.PartRoot {
		q.Look = 1
	}
	return q
}

func TestP16_4Edit(t *testing.T) {
	r := rand.New(rand.NewSource(4))
	for range 4000 {
		l := random(r)
		n := l[0].To + 3
		e := api.Edit{At: r.Intn(n + 1), Ins: r.Intn(4)}
		e.Del = r.Intn(n - e.At + 1)
		bit := uint64(1) << r.Intn(64)
		before := Copy(l)
		got := Edit(l, e, bit)
		if !Same(before, l) {
			t.Fatal("Edit changed its argument")
		}
		if Check(got) != api.OK || len(got) != len(l) {
			t.Fatalf("P16.3: %v, %v: %v is not valid", l, e, got)
		}
		for i := range l {
			want := naiveEdit(l, i, e, bit)
			if !Same([]api.Part{want}, got[i:i+1]) {
				t.Fatalf("%v, %v: part %d: %v, not %v", l, e, i, got[i], want)
			}
		}
		stale := Stale(got)
		for i := range got {
			want := slices.ContainsFunc(inside(got, i), func(j int) bool { return got[j].Met != 0 })
			if stale[i] != want {
				t.Fatalf("Stale of %d: %v", i, stale[i])
			}
		}
	}
}

func TestP16_4Table(t *testing.T) {
	// c is inserted at 1: it changes a, and what looks at what comes after a.
	want := []api.Part{
		part(api.PartRoot, api.SymRoot, 0, 0, 4, 1, 1, 6),
		part(api.PartNon, 1, 0, 0, 4, 3, 2, 3),
		part(api.PartTok, 0, 0, 0, 1, 3),
		part(api.PartNon, 1, 2, 2, 4, 5, 4, 5),
		part(api.PartTok, 0, 2, 3, 4, 5),
		part(api.PartNon, 1, 4, 4, 4, 5),
		part(api.PartEnd, api.KindEnd, 4, 4, 4, 5),
	}
	want[1].Met, want[2].Met = 4, 4
	if got := Edit(small(), api.Edit{At: 1, Ins: 1}, 4); !Same(got, want) {
		t.Error(got)
	}
	// Everything is removed.
	got := Edit(small(), api.Edit{Del: 3}, 1)
	for i, p := range got {
		met := uint64(1)
		if i >= 5 {
			met = 0 // They look at the end alone, which stays.
		}
		if p.At != 0 || p.In != 0 || p.To != 0 || p.Look != 1 || p.Met != met {
			t.Error(i, p)
		}
	}
	// An edit after everything meets nothing, but the root becomes longer.
	l := small()
	l[5].Look, l[6].Look, l[3].Look, l[4].Look = 4, 4, 4, 4
	got = Edit(l, api.Edit{At: 4, Ins: 2}, 1)
	if got[0].To != 5 || got[6].To != 3 || slices.Contains(Stale(got), true) {
		t.Error(got)
	}
	// At 0 the root is met, but what begins there is not: it moves.
	got = Edit(small(), api.Edit{Ins: 2}, 8)
	if got[0].Met != 8 || got[0].At != 0 || got[0].To != 5 || got[1].Met != 0 || got[1].At != 2 {
		t.Error(got)
	}
	// A Look that would end before the edit reaches to its first byte.
	got = Edit(small(), api.Edit{At: 1, Del: 2}, 2)
	if got[2].Look != 2 || got[2].Met != 2 || got[2].To != 1 {
		t.Error(got[2])
	}
	for _, e := range []api.Edit{{At: -1}, {Del: -1}, {Ins: -1}, {At: math.MinInt}} {
		if len(Edit(small(), e, 1)) != 0 {
			t.Error(e)
		}
	}
	huge := small()
	huge[0].To, huge[6].Look = math.MaxInt, math.MaxInt
	for _, e := range []api.Edit{{At: 2, Del: math.MaxInt, Ins: math.MaxInt}, {At: math.MaxInt, Ins: math.MaxInt}, {Del: math.MaxInt}, {Ins: math.MaxInt}} {
		if got := Edit(huge, e, 1); Check(got) != api.OK {
			t.Errorf("%v: %v", e, got)
		}
	}
}

func TestP16_3Shape(t *testing.T) {
	r := rand.New(rand.NewSource(5))
	for range 2000 {
		l := random(r)
		for i := range l {
			l[i].Met = 0
		}
		n := l[0].To + 3
		e := api.Edit{At: r.Intn(n + 1), Ins: r.Intn(4)}
		e.Del = r.Intn(n - e.At + 1)
		got := Edit(l, e, 1)
		stale := Stale(got)
		for i, p := range l {
			if stale[i] || p.Kind == api.PartRoot {
				continue
			}
			// Its bytes are inside its own span, unless it has some that no decision of its own examined.
			if p.Look < p.To || slices.ContainsFunc(inside(l, i), func(j int) bool { return l[j].Look < l[j].To }) {
				continue
			}
			by := got[i].At - p.At
			if !Same(Sub(got, i), Move(Sub(l, i), by)) {
				t.Fatalf("%v, %v: %d: %v, not %v", l, e, i, Sub(got, i), Move(Sub(l, i), by))
			}
		}
	}
}

func TestDeepTree(t *testing.T) {
	const depth = 1 << 18
	l := []api.Part{part(api.PartRoot, 0, 0, 0, 0, 1)}
	for i := range depth {
		l[i].Kids = []int{i + 1}
		l = append(l, part(api.PartNon, i, 0, 0, 0, 1))
	}
	if Check(l) != api.OK || End(l, 0) != depth+1 || len(Path(l, depth)) != depth+1 || len(Leaves(l)) != 0 {
		t.Error("a deep tree")
	}
	if i, ok := Find(l, depth-1, 0); i != depth || !ok {
		t.Error(i, ok)
	}
	if got := Edit(l, api.Edit{Ins: 1}, 1); Check(got) != api.OK || len(Sub(got, 1)) != depth {
		t.Error("a deep tree is edited")
	}
}

func TestResultsShareNoMemory(t *testing.T) {
	l := small()
	put, _ := Put(l, 3, Sub(l, 3))
	for i, out := range [][]api.Part{Sub(l, 0), put, Bare(l), Move(l, 1), Copy(l), Edit(l, api.Edit{At: 1, Ins: 1}, 1)} {
		for j := range out {
			for k := range out[j].Kids {
				out[j].Kids[k] = -7
			}
			_ = append(out[j].Kids, -7)
		}
		if !Same(l, small()) {
			t.Fatalf("%d: shares memory", i)
		}
		for j := range out {
			if len(out[j].Kids) != len(l[j].Kids) {
				t.Fatalf("%d: %v", i, out[j])
			}
		}
	}
}

func TestExamples(t *testing.T) {
	l := []api.Part{part(api.PartRoot, api.SymRoot, 0, 0, 2, 1, 1, 3), part(api.PartNon, 1, 0, 0, 2, 3, 2), part(api.PartTok, 0, 0, 0, 2, 3), part(api.PartEnd, api.KindEnd, 2, 2, 2, 3)}
	if got := Leaves(l); !slices.Equal(got, []int{2, 3}) {
		t.Error(got)
	}
}
