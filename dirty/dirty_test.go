package dirty

import (
	"math"
	"math/rand"
	"slices"
	"sort"
	"testing"

	"viewport/api"
	"viewport/shift"
)

func job(slot, from, to, age, level int) api.Dirty {
	return api.Dirty{Slot: slot, Span: api.Span{From: from, To: to}, Age: age, Level: level}
}

func random(r *rand.Rand, most int) []api.Dirty {
	var l []api.Dirty
	slots := 1 + r.Intn(10)
	if r.Intn(4) == 0 {
		slots = 64
	}
	for slot := range slots {
		if len(l) < most && r.Intn(2) == 0 {
			from := r.Intn(40)
			l = append(l, job(slot, from, from+r.Intn(4), r.Intn(9), r.Intn(3)))
		}
	}
	return l
}

// naive adds an edit in the words of the document.
func naive(l []api.Dirty, e api.Edit, room int) (out []api.Dirty, slot int, went [][2]int) {
	jobs := map[int]api.Dirty{}
	for _, j := range l {
		j.Span = shift.Move(j.Span, e)
		jobs[j.Slot] = j
	}
	span := api.Span{From: e.At, To: e.At + e.Ins}
	join := func(slots []int, span api.Span) int {
		sort.Ints(slots)
		result := api.Dirty{Slot: slots[0], Span: span}
		for _, s := range slots {
			j := jobs[s]
			result.Span.From = min(result.Span.From, j.Span.From)
			result.Span.To = max(result.Span.To, j.Span.To)
			result.Age = max(result.Age, j.Age)
			delete(jobs, s)
			if s != slots[0] {
				went = append(went, [2]int{s, slots[0]})
			}
		}
		jobs[slots[0]] = result
		return slots[0]
	}
	var touched []int
	for s, j := range jobs {
		if j.Span.From <= span.To && span.From <= j.Span.To {
			touched = append(touched, s)
		}
	}
	if len(touched) > 0 {
		slot = join(touched, span)
	} else {
		for _, taken := jobs[slot]; taken; _, taken = jobs[slot] {
			slot++
		}
		jobs[slot] = api.Dirty{Slot: slot, Span: span}
	}
	for len(jobs) > room {
		var ordered []api.Dirty
		for _, j := range jobs {
			ordered = append(ordered, j)
		}
		sort.Slice(ordered, func(i, k int) bool {
			a, b := ordered[i], ordered[k]
			return a.Span.From < b.Span.From || a.Span.From == b.Span.From && a.Slot < b.Slot
		})
		far := math.MaxInt
		var pair []api.Dirty
		for i, a := range ordered {
			// Among the second jobs the one with the least slot counts, not the one with the least From.
			rest := slices.Clone(ordered[i+1:])
			sort.Slice(rest, func(i, k int) bool { return rest[i].Slot < rest[k].Slot })
			for _, b := range rest {
				if d := max(0, b.Span.From-a.Span.To); d < far {
					far, pair = d, []api.Dirty{a, b}
				}
			}
		}
		s := join([]int{pair[0].Slot, pair[1].Slot}, pair[0].Span)
		if slot == pair[0].Slot || slot == pair[1].Slot {
			slot = s
		}
	}
	for s := range 65 {
		if j, ok := jobs[s]; ok {
			out = append(out, j)
		}
	}
	return out, slot, went
}

func TestP22_1Add(t *testing.T) {
	r := rand.New(rand.NewSource(1))
	joined, nearest := 0, 0
	for range 6000 {
		room := 1 + r.Intn(8)
		if r.Intn(10) == 0 {
			room = api.MaxJobs
		}
		l := random(r, room)
		e := api.Edit{At: r.Intn(45), Del: r.Intn(4), Ins: r.Intn(4)}
		before := slices.Clone(l)
		out, slot, went, err := Add(l, e, room)
		want, wantSlot, wantWent := naive(l, e, room)
		if err != api.OK || !slices.Equal(out, want) || slot != wantSlot || !slices.Equal(went, wantWent) {
			t.Fatalf("Add of %v, %v, %d: %v, %d, %v, %d\nnot %v, %d, %v", l, e, room, out, slot, went, err, want, wantSlot, wantWent)
		}
		if !slices.Equal(l, before) {
			t.Fatal("Add changed its argument")
		}
		if Check(out) != api.OK || len(out) > room {
			t.Fatalf("P22.3: %v, room %d", out, room)
		}
		for _, j := range l {
			m := shift.Move(j.Span, e)
			if !slices.ContainsFunc(out, func(k api.Dirty) bool { return k.Span.From <= m.From && m.To <= k.Span.To }) {
				t.Fatalf("P22.3: %v is not pending any more: %v", m, out)
			}
		}
		if j, ok := Find(out, slot); !ok || j.Span.From > e.At || j.Span.To < e.At+e.Ins || j.Level != 0 {
			t.Fatalf("the edit %v is not in slot %d of %v", e, slot, out)
		}
		if len(went) > 1 {
			joined++
		}
		if len(l) == room && len(out) == room && slot < 64 {
			nearest++
		}
	}
	if joined < 100 || nearest < 100 {
		t.Error("few jobs were joined:", joined, nearest)
	}
}

func TestP22_1AddTable(t *testing.T) {
	full := make([]api.Dirty, 0, 40)
	for slot := range api.MaxJobs {
		full = append(full, job(slot, 10*slot, 10*slot+2, slot, 1))
	}
	for n, x := range []struct {
		l    []api.Dirty
		e    api.Edit
		room int
		out  []api.Dirty
		slot int
		went [][2]int
	}{
		{nil, api.Edit{At: 3, Del: 2}, 1, []api.Dirty{job(0, 3, 3, 0, 0)}, 0, nil},
		{nil, api.Edit{}, 1, []api.Dirty{job(0, 0, 0, 0, 0)}, 0, nil},
		// The least slot that is free, below and above.
		{[]api.Dirty{job(1, 0, 1, 2, 3)}, api.Edit{At: 8, Ins: 1}, 4, []api.Dirty{job(0, 8, 9, 0, 0), job(1, 0, 1, 2, 3)}, 0, nil},
		{[]api.Dirty{job(0, 0, 1, 2, 3), job(2, 3, 4, 0, 0)}, api.Edit{At: 8, Ins: 1}, 4, []api.Dirty{job(0, 0, 1, 2, 3), job(1, 8, 9, 0, 0), job(2, 3, 4, 0, 0)}, 1, nil},
		{[]api.Dirty{job(63, 0, 1, 2, 3)}, api.Edit{At: 8, Ins: 1}, 4, []api.Dirty{job(0, 8, 9, 0, 0), job(63, 0, 1, 2, 3)}, 0, nil},
		// One job is touched: its Level is 0 again, its Age stays.
		{[]api.Dirty{job(5, 2, 4, 7, 3)}, api.Edit{At: 4, Ins: 2}, 4, []api.Dirty{job(5, 2, 6, 7, 0)}, 5, nil},
		{[]api.Dirty{job(5, 2, 4, 7, 3)}, api.Edit{At: 0, Del: 2}, 4, []api.Dirty{job(5, 0, 2, 7, 0)}, 5, nil},
		{[]api.Dirty{job(5, 2, 4, 7, 3)}, api.Edit{At: 1, Ins: 1}, 4, []api.Dirty{job(0, 1, 2, 0, 0), job(5, 3, 5, 7, 3)}, 0, nil},
		// Two jobs come together because what was between them goes.
		{[]api.Dirty{job(2, 5, 6, 1, 1), job(4, 1, 2, 9, 2), job(6, 8, 9, 3, 3)}, api.Edit{At: 2, Del: 3}, 4, []api.Dirty{job(2, 1, 3, 9, 0), job(6, 5, 6, 3, 3)}, 2, [][2]int{{4, 2}}},
		// Three are touched, and those that went are told in the order of their slots.
		{[]api.Dirty{job(1, 9, 9, 1, 1), job(3, 4, 5, 2, 2), job(8, 6, 7, 0, 4)}, api.Edit{At: 5, Del: 4, Ins: 1}, 4, []api.Dirty{job(1, 4, 6, 2, 0)}, 1, [][2]int{{3, 1}, {8, 1}}},
		// No room: the nearest two are joined, here without the edit.
		{[]api.Dirty{job(0, 0, 1, 4, 2), job(1, 4, 5, 6, 1)}, api.Edit{At: 20, Ins: 1}, 2, []api.Dirty{job(0, 0, 5, 6, 0), job(2, 20, 21, 0, 0)}, 2, [][2]int{{1, 0}}},
		// No room: the edit's own job goes into another one.
		{[]api.Dirty{job(0, 0, 1, 4, 2), job(2, 15, 16, 6, 1)}, api.Edit{At: 18, Ins: 1}, 2, []api.Dirty{job(0, 0, 1, 4, 2), job(1, 15, 19, 6, 0)}, 1, [][2]int{{2, 1}}},
		{[]api.Dirty{job(0, 0, 1, 4, 2)}, api.Edit{At: 18, Ins: 1}, 1, []api.Dirty{job(0, 0, 19, 4, 0)}, 0, [][2]int{{1, 0}}},
		// Equally near: the one whose first job comes first, whatever its slot.
		{[]api.Dirty{job(0, 20, 21, 0, 0), job(1, 11, 12, 0, 0), job(2, 2, 3, 0, 0)}, api.Edit{At: 60, Ins: 1}, 3, []api.Dirty{job(0, 20, 21, 0, 0), job(1, 2, 12, 0, 0), job(3, 60, 61, 0, 0)}, 3, [][2]int{{2, 1}}},
		// Equally near, and the same first job: the second one with the least slot, although it begins later.
		{[]api.Dirty{job(1, 2, 9, 0, 0), job(2, 8, 9, 0, 0), job(4, 5, 6, 0, 0)}, api.Edit{At: 60, Ins: 1}, 3, []api.Dirty{job(0, 60, 61, 0, 0), job(1, 2, 9, 0, 0), job(4, 5, 6, 0, 0)}, 0, [][2]int{{2, 1}}},
		// Those that begin together: the first one is that with the lesser slot.
		{[]api.Dirty{job(1, 2, 4, 0, 0), job(2, 2, 3, 0, 0), job(4, 3, 3, 0, 0)}, api.Edit{At: 60, Ins: 1}, 3, []api.Dirty{job(0, 60, 61, 0, 0), job(1, 2, 4, 0, 0), job(4, 3, 3, 0, 0)}, 0, [][2]int{{2, 1}}},
		// All slots of a word are taken: the next one is, until two are joined.
		{full, api.Edit{At: 500, Ins: 1}, api.MaxJobs, nil, 32, [][2]int{{1, 0}}},
	} {
		out, slot, went, err := Add(x.l, x.e, x.room)
		if x.out == nil {
			x.out = append([]api.Dirty{job(0, 0, 12, 1, 0)}, full[2:]...)
			x.out = append(x.out, job(32, 500, 501, 0, 0))
		}
		if err != api.OK || !slices.Equal(out, x.out) || slot != x.slot || !slices.Equal(went, x.went) {
			t.Errorf("%d: %v, %d, %v, %d", n, out, slot, went, err)
		}
	}
}

func TestP22_1Errors(t *testing.T) {
	ok := []api.Dirty{job(0, 0, 0, 0, 0), job(63, 5, 9, math.MaxInt, math.MaxInt)}
	var many []api.Dirty
	for slot := range api.MaxJobs + 1 {
		many = append(many, job(slot, 0, 0, 0, 0))
	}
	for n, x := range []struct {
		l    []api.Dirty
		want api.Errno
	}{
		{nil, api.OK}, {ok, api.OK}, {many[:api.MaxJobs], api.OK}, {many, api.ErrArg},
		{[]api.Dirty{job(-1, 0, 0, 0, 0)}, api.ErrArg}, {[]api.Dirty{job(64, 0, 0, 0, 0)}, api.ErrArg},
		{[]api.Dirty{job(1, 0, 0, 0, 0), job(1, 0, 0, 0, 0)}, api.ErrArg}, {[]api.Dirty{job(1, 0, 0, 0, 0), job(0, 0, 0, 0, 0)}, api.ErrArg},
		{[]api.Dirty{job(0, -1, 0, 0, 0)}, api.ErrArg}, {[]api.Dirty{job(0, 2, 1, 0, 0)}, api.ErrArg},
		{[]api.Dirty{job(0, 0, 0, -1, 0)}, api.ErrArg}, {[]api.Dirty{job(0, 0, 0, 0, -1)}, api.ErrArg},
		{[]api.Dirty{job(0, 0, 0, 0, 0), job(2, 0, 0, 0, -1)}, api.ErrArg},
	} {
		if got := Check(x.l); got != x.want {
			t.Errorf("%d: Check: %d", n, got)
		}
		out, slot, went, err := Add(x.l, api.Edit{}, api.MaxJobs)
		if err != x.want || x.want != api.OK && (out != nil || slot != 0 || went != nil) {
			t.Errorf("%d: Add: %d", n, err)
		}
	}
	for n, x := range []struct {
		e    api.Edit
		room int
		want api.Errno
	}{
		{api.Edit{}, 2, api.OK}, {api.Edit{}, 1, api.ErrArg}, {api.Edit{}, 0, api.ErrArg}, {api.Edit{}, -1, api.ErrArg}, {api.Edit{}, 32, api.OK}, {api.Edit{}, 33, api.ErrArg}, {api.Edit{}, math.MaxInt, api.ErrArg},
		{api.Edit{At: -1}, 5, api.ErrArg}, {api.Edit{Del: -1}, 5, api.ErrArg}, {api.Edit{Ins: -1}, 5, api.ErrArg}, {api.Edit{Ins: math.MinInt}, 5, api.ErrArg},
		{api.Edit{At: math.MaxInt, Del: math.MaxInt, Ins: math.MaxInt}, 5, api.OK},
	} {
		out, slot, went, err := Add(ok, x.e, x.room)
		if err != x.want || err != api.OK && (out != nil || slot != 0 || went != nil) || err == api.OK && Check(out) != api.OK {
			t.Errorf("%d: %v, %d, %v, %d", n, out, slot, went, err)
		}
	}
	if out, _, _, err := Add([]api.Dirty{job(0, 0, math.MaxInt, 0, 0)}, api.Edit{At: 5, Ins: math.MaxInt}, 1); err != api.OK || Check(out) != api.OK {
		t.Error(out, err)
	}
	if _, _, _, err := Add(many, api.Edit{}, api.MaxJobs); err != api.ErrArg {
		t.Error(err)
	}
}

func TestP22_2(t *testing.T) {
	l := []api.Dirty{job(1, 2, 3, 4, 5), job(3, 0, 9, 1, 0), job(40, 1, 1, 0, 2)}
	for slot, want := range map[int]int{1: 0, 3: 1, 40: 2, 0: -1, -1: -1, 64: -1, math.MaxInt: -1} {
		j, ok := Find(l, slot)
		if ok != (want >= 0) || ok && j != l[want] || !ok && j != (api.Dirty{}) {
			t.Errorf("Find %d: %v, %v", slot, j, ok)
		}
		rest := slices.Clone(l)
		replaced := slices.Clone(l)
		with := job(slot, 77, 78, 9, 9)
		if want >= 0 {
			rest = slices.Delete(rest, want, want+1)
			replaced[want] = with
		}
		if got := Drop(l, slot); !slices.Equal(got, rest) {
			t.Errorf("Drop %d: %v", slot, got)
		}
		got := Set(l, with)
		if !slices.Equal(got, replaced) {
			t.Errorf("Set %d: %v", slot, got)
		}
		got[0].Age = 1000
		if dropped := Drop(l, slot); len(dropped) > 0 {
			dropped[0].Age = 1000
		}
	}
	if l[0].Age != 4 || l[1].Age != 1 {
		t.Error("an argument has changed")
	}
	if !Same(l, slices.Clone(l)) || !Same(nil, []api.Dirty{}) || Same(l, l[:2]) || Same(l[:2], l) {
		t.Error("Same")
	}
	for i, other := range []api.Dirty{job(2, 2, 3, 4, 5), job(1, 1, 3, 4, 5), job(1, 2, 4, 4, 5), job(1, 2, 3, 5, 5), job(1, 2, 3, 4, 6)} {
		if Same(l[:1], []api.Dirty{other}) {
			t.Errorf("%d: the same", i)
		}
	}
}

func TestExamples(t *testing.T) {
	l := []api.Dirty{job(0, 2, 4, 0, 0)}
	out, slot, went, err := Add(l, api.Edit{At: 8, Ins: 2}, 4)
	if err != api.OK || slot != 1 || len(went) != 0 || !slices.Equal(out, []api.Dirty{job(0, 2, 4, 0, 0), job(1, 8, 10, 0, 0)}) {
		t.Error(out, slot, went, err)
	}
	out, slot, went, err = Add(l, api.Edit{At: 4, Ins: 1}, 4)
	if err != api.OK || slot != 0 || len(went) != 0 || !slices.Equal(out, []api.Dirty{job(0, 2, 5, 0, 0)}) {
		t.Error(out, slot, went, err)
	}
}
