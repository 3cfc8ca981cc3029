package heap

import (
	"cmp"
	"math/rand"
	"slices"
	"strings"
	"testing"
)

// thing has a rank that is compared, and a name that is not.
type thing struct {
	rank int
	name int
}

func byRank(a, b thing) int { return cmp.Compare(a.rank, b.rank) }

func TestP23_1(t *testing.T) {
	r := rand.New(rand.NewSource(1))
	for range 300 {
		h := New(byRank)
		var model []thing // in the order in which they were put, and stably sorted when asked
		for n := range 80 {
			sorted := slices.Clone(model)
			slices.SortStableFunc(sorted, byRank)
			if h.Len() != len(model) {
				t.Fatalf("Len: %d, not %d", h.Len(), len(model))
			}
			least, ok := h.Least()
			if ok != (len(sorted) > 0) || ok && least != sorted[0] || !ok && least != (thing{}) {
				t.Fatalf("Least: %v, %v of %v", least, ok, sorted)
			}
			if r.Intn(5) == 0 {
				if got := slices.Collect(h.All()); !slices.Equal(got, sorted) {
					t.Fatalf("All: %v, not %v", got, sorted)
				}
			}
			if r.Intn(5) < 3 {
				x := thing{r.Intn(6), n}
				h.Put(x)
				model = append(model, x)
				continue
			}
			x, ok := h.Take()
			if ok != (len(sorted) > 0) || ok && x != sorted[0] || !ok && x != (thing{}) {
				t.Fatalf("Take: %v, %v of %v", x, ok, sorted)
			}
			if ok {
				i := slices.Index(model, x)
				model = slices.Delete(model, i, i+1)
			}
		}
	}
}

func TestP23_2(t *testing.T) {
	r := rand.New(rand.NewSource(2))
	h := New(byRank)
	for n := range 3000 {
		h.Put(thing{r.Intn(20), n})
	}
	last, ok := h.Take()
	for ok {
		var next thing
		if next, ok = h.Take(); ok && (next.rank < last.rank || next.rank == last.rank && next.name < last.name) {
			t.Fatalf("%v after %v", next, last)
		}
		last = next
	}
	if h.Len() != 0 {
		t.Error(h.Len())
	}
}

func TestP23_1All(t *testing.T) {
	h := New(strings.Compare)
	for _, s := range []string{"d", "b", "a", "c"} {
		h.Put(s)
	}
	seq := h.All()
	h.Put("aa")
	got := ""
	for s := range seq {
		got += s + " "
		h.Take()
		h.Put("0")
		if s == "c" {
			break
		}
	}
	if got != "a aa b c " {
		t.Errorf("the elements as they are when the iteration begins: %s", got)
	}
	// Each of the elements that were put came first, and was taken in the next turn.
	if got := slices.Collect(seq); !slices.Equal(got, []string{"0", "aa", "b", "c", "d"}) {
		t.Error(got)
	}
	if h.Len() != 5 {
		t.Error("an iteration removes something:", h.Len())
	}
}

func TestOtherOrders(t *testing.T) {
	down := New(func(a, b int) int { return b - a })
	for _, x := range []int{2, 9, 4} {
		down.Put(x)
	}
	if got := slices.Collect(down.All()); !slices.Equal(got, []int{9, 4, 2}) {
		t.Error(got)
	}
	// A function that is no order still gives each element once.
	odd := New(func(a, b int) int { return -1 })
	for x := range 20 {
		odd.Put(x)
	}
	got := slices.Sorted(odd.All())
	if len(got) != 20 || got[0] != 0 || got[19] != 19 || odd.Len() != 20 {
		t.Error(got)
	}
}

func TestInvalidHeaps(t *testing.T) {
	copied := *New(byRank)
	for i, h := range []*Heap[thing]{nil, {}, &copied, New[thing](nil)} {
		h.Put(thing{1, 1})
		x, ok := h.Least()
		y, ok2 := h.Take()
		if x != (thing{}) || ok || y != (thing{}) || ok2 || h.Len() != 0 || len(slices.Collect(h.All())) != 0 {
			t.Errorf("%d: an invalid heap does something", i)
		}
	}
	h := New(byRank)
	if h.Len() != 0 || len(slices.Collect(h.All())) != 0 {
		t.Error("a new heap is empty")
	}
}

func TestExamples(t *testing.T) {
	h := New(func(a, b string) int { return cmp.Compare(a[0], b[0]) })
	for _, s := range []string{"b1", "a1", "b2", "a2"} {
		h.Put(s)
	}
	for _, want := range []string{"a1", "a2", "b1", "b2"} {
		if got, ok := h.Take(); got != want || !ok {
			t.Error(got, ok, want)
		}
	}
}
