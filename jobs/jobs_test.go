package jobs

import (
	"math"
	"math/rand"
	"slices"
	"testing"

	"viewport/api"
	"viewport/dirty"
	"viewport/shift"
)

func job(slot, from, to, age int) api.Dirty {
	return api.Dirty{Slot: slot, Span: api.Span{From: from, To: to}, Age: age}
}

func random(r *rand.Rand) []api.Dirty {
	var l []api.Dirty
	for slot := range 12 {
		if r.Intn(2) == 0 {
			from := r.Intn(20)
			l = append(l, job(slot, from, from+r.Intn(4), r.Intn(6)))
		}
	}
	return l
}

// next tells the next job by going through them as often as the document has conditions.
func next(l []api.Dirty, view api.Span, wait int) (int, bool) {
	keep := func(better func(a, b api.Dirty) bool) {
		var best []api.Dirty
		for _, j := range l {
			if !slices.ContainsFunc(l, func(k api.Dirty) bool { return better(k, j) }) {
				best = append(best, j)
			}
		}
		l = best
	}
	if len(l) == 0 {
		return 0, false
	}
	if slices.ContainsFunc(l, func(j api.Dirty) bool { return j.Age >= wait }) {
		keep(func(a, b api.Dirty) bool { return a.Age > b.Age })
	} else {
		keep(func(a, b api.Dirty) bool { return shift.Far(a.Span, view) < shift.Far(b.Span, view) })
		keep(func(a, b api.Dirty) bool { return a.Span.From < b.Span.From })
	}
	keep(func(a, b api.Dirty) bool { return a.Slot < b.Slot })
	return l[0].Slot, true
}

func TestP24_1(t *testing.T) {
	r := rand.New(rand.NewSource(1))
	for range 3000 {
		l := random(r)
		from := r.Intn(24)
		view := api.Span{From: from, To: from + r.Intn(5)}
		wait := r.Intn(9) - 1
		before := slices.Clone(l)
		want, is := next(l, view, wait)
		if got, ok := Next(l, view, wait); got != want || ok != is {
			t.Fatalf("Next of %v, %v, %d: %d, %v, not %d", l, view, wait, got, ok, want)
		}
		var order []int
		for rest := l; len(rest) > 0; {
			slot, _ := next(rest, view, wait)
			order = append(order, slot)
			rest = dirty.Drop(rest, slot)
		}
		if got := Order(l, view, wait); !slices.Equal(got, order) {
			t.Fatalf("Order of %v, %v, %d: %v, not %v", l, view, wait, got, order)
		}
		if !slices.Equal(l, before) {
			t.Fatal("an argument has changed")
		}
	}
}

func TestP24_1Edges(t *testing.T) {
	two := []api.Dirty{job(0, 2, 4, 3), job(1, 90, 95, 0)}
	for _, bad := range [][]api.Dirty{nil, {job(-1, 0, 0, 0)}, {job(1, 0, 0, 0), job(1, 0, 0, 0)}, {job(0, 3, 2, 0)}, {job(0, 0, 0, -1)}} {
		if slot, ok := Next(bad, api.Span{}, 1); slot != 0 || ok || len(Order(bad, api.Span{}, 1)) != 0 {
			t.Errorf("%v: %d, %v", bad, slot, ok)
		}
	}
	for wait, want := range map[int]int{math.MinInt: 0, -1: 0, 0: 0, 3: 0, 4: 1, math.MaxInt: 1} {
		if slot, ok := Next(two, api.Span{From: 80, To: 99}, wait); slot != want || !ok {
			t.Errorf("wait %d: %d, %v", wait, slot, ok)
		}
	}
	// Both have waited: the older one, whatever is near; of the same Age the lesser slot.
	l := []api.Dirty{job(0, 50, 60, 5), job(1, 0, 1, 9), job(2, 50, 60, 9)}
	if got := Order(l, api.Span{From: 50, To: 60}, 5); !slices.Equal(got, []int{1, 2, 0}) {
		t.Error(got)
	}
	// Nobody has waited: what touches the view is equally near; then From decides, then the slot.
	l = []api.Dirty{job(0, 59, 60, 4), job(1, 40, 50, 0), job(2, 60, 70, 1), job(3, 59, 90, 0), job(4, 0, 48, 0), job(5, 63, 70, 0)}
	if got := Order(l, api.Span{From: 50, To: 60}, 5); !slices.Equal(got, []int{1, 0, 3, 2, 4, 5}) {
		t.Error(got)
	}
	if slot, ok := Next(two, api.Span{From: math.MinInt, To: math.MaxInt}, 9); slot != 0 || !ok {
		t.Error(slot, ok)
	}
}

func TestP24_2(t *testing.T) {
	const oldest = 1000 * 1000
	l := []api.Dirty{job(0, 1, 2, 5), job(1, 1, 2, oldest-1), job(2, 1, 2, oldest), job(3, 1, 2, oldest+7), job(4, 0, 0, math.MaxInt), job(9, 1, 2, 0)}
	ages := func(l []api.Dirty) []int {
		var out []int
		for _, j := range l {
			out = append(out, j.Age)
		}
		return out
	}
	for _, x := range []struct {
		served []int
		want   []int
	}{
		{nil, []int{6, oldest, oldest, oldest + 7, math.MaxInt, 1}},
		{[]int{0, 2, 9, 2, 77, -1}, []int{0, oldest, 0, oldest + 7, math.MaxInt, 0}},
		{[]int{4, 3, 1}, []int{6, 0, oldest, 0, 0, 1}},
	} {
		if got := Ticked(l, x.served); !slices.Equal(ages(got), x.want) || got[0].Span != l[0].Span || got[5].Slot != 9 {
			t.Errorf("Ticked with %v: %v", x.served, got)
		}
	}
	// Any list of jobs.
	strange := []api.Dirty{{Slot: 70, Age: -3, Level: -1}, {Slot: 70, Age: 4, Span: api.Span{From: 9, To: 1}}, {Slot: -2, Age: math.MinInt}}
	if got := Ticked(strange, []int{-2}); !slices.Equal(ages(got), []int{-2, 5, 0}) || got[0].Level != -1 {
		t.Error(got)
	}
	if got := Serve(strange, 70); !slices.Equal(ages(got), []int{0, 0, math.MinInt}) || got[1].Span.From != 9 {
		t.Error(got)
	}
	if got := Serve(l, 9); !slices.Equal(ages(got), ages(l)) {
		t.Error(got)
	}
	if got := Serve(l, 1); got[1].Age != 0 || got[0].Age != 5 || l[1].Age != oldest-1 {
		t.Error(got)
	}
	if len(Ticked(nil, []int{1})) != 0 || len(Serve(nil, 1)) != 0 {
		t.Error("no jobs")
	}
}

func TestP24_3(t *testing.T) {
	r := rand.New(rand.NewSource(2))
	for range 200 {
		l := random(r)
		if len(l) == 0 {
			continue
		}
		for i := range l {
			l[i].Age = 0
		}
		wait := 1 + r.Intn(6)
		served := map[int]int{}
		for tick := range 6 * (wait + len(l)) {
			from := r.Intn(24)
			slot, _ := Next(l, api.Span{From: from, To: from}, wait)
			l = Ticked(Serve(l, slot), []int{slot})
			served[slot] = tick
			for _, j := range l {
				last, ever := served[j.Slot]
				if !ever {
					last = -1
				}
				if tick-last > wait+len(l) {
					t.Fatalf("slot %d has waited since %d, it is %d", j.Slot, last, tick)
				}
			}
		}
	}
}

func TestExamples(t *testing.T) {
	l := []api.Dirty{job(0, 2, 4, 3), job(1, 90, 95, 0)}
	view := api.Span{From: 80, To: 99}
	if slot, ok := Next(l, view, 5); slot != 1 || !ok {
		t.Error(slot, ok)
	}
	if slot, ok := Next(l, view, 3); slot != 0 || !ok {
		t.Error(slot, ok)
	}
}
