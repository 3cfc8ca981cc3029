package parts

import (
	"testing"

	"viewport/api"
)

func TestShifted(t *testing.T) {
	l := []api.Part{{Sym: 7, Kids: []int{4, 6}}, {Sym: 8}}
	got := Shifted(l, -3)
	if !Same(got, []api.Part{{Sym: 7, Kids: []int{1, 3}}, {Sym: 8}}) || l[0].Kids[0] != 4 {
		t.Error(got, l)
	}
}

func TestParts(t *testing.T) {
	l := []api.Part{{Kind: api.PartRoot, Kids: []int{1, 5}}, {Kind: api.PartNon, Kids: []int{2, 3}}, {Kind: api.PartTok}, {Kind: api.PartNon, Kids: []int{4}}, {Kind: api.PartSkip}, {Kind: api.PartEnd}}
	for i, want := range []int{6, 5, 3, 5, 5, 6} {
		if got := End(l, i); got != want {
			t.Errorf("End of %d: %d", i, got)
		}
	}
	for i, want := range []bool{true, true, false, true, false, false} {
		if Inner(l[i]) != want {
			t.Errorf("Inner of %d: %v", i, !want)
		}
	}
	a := api.Part{Sym: 1, Kind: 2, At: 3, To: 4, In: 5, Look: 6, Met: 7}
	if !Fits(a, api.Part{Sym: 1, Kind: 2, At: 3, To: 4}) || Fits(a, api.Part{Kind: 2, At: 3, To: 4}) || Fits(a, api.Part{Sym: 1, At: 3, To: 4}) || Fits(a, api.Part{Sym: 1, Kind: 2, To: 4}) || Fits(a, api.Part{Sym: 1, Kind: 2, At: 3}) {
		t.Error("Fits")
	}
	same := func(change func(p *api.Part)) bool {
		b := api.Part{Sym: 1, Kind: 2, At: 3, To: 4, In: 5, Look: 6, Met: 7}
		change(&b)
		return Same([]api.Part{a}, []api.Part{b}) || Same([]api.Part{b}, []api.Part{a})
	}
	if !same(func(p *api.Part) { p.Kids = []int{} }) || same(func(p *api.Part) { p.Kids = []int{1} }) || same(func(p *api.Part) { p.Sym++ }) || same(func(p *api.Part) { p.In++ }) || same(func(p *api.Part) { p.Look++ }) || same(func(p *api.Part) { p.Met++ }) || Same(l, l[:5]) {
		t.Error("Same")
	}
}
