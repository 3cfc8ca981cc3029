package walk

import (
	"slices"
	"testing"

	"viewport/api"
	"viewport/lexer"
	"viewport/predict"
	"viewport/tree"
)

// source is that of words with gaps between them; nonterminal 0 is a word and 0, or nothing.
func source(t *testing.T, text string) Source {
	t.Helper()
	x, _, e := lexer.Build([]api.Rule{{Name: "word", Regex: "[a-z]+"}, {Name: "gap", Regex: "[ ]+", Trivia: true}})
	if e != api.OK {
		t.Fatal(e)
	}
	g := api.Grammar{Terms: 1, Nons: 1, K: 1, Prods: []api.Prod{{Right: []int{0, 1}}, {}}}
	table, _, _ := predict.Build(g)
	return Source{
		Grammar: g,
		Bytes:   len(text),
		Token: func(at int) api.Token {
			tok, _ := lexer.Next(x, text, at)
			return tok
		},
		Predict: func(left int, row string) int { return predict.Predict(g, table, left, row) },
		Behind:  func(left, kind int) bool { return kind == api.KindEnd },
	}
}

func TestWalkGoesOnWhereItWasLeft(t *testing.T) {
	s := source(t, "a b 1")
	whole := New(s, -1, 0, nil)
	want := slices.Collect(whole.Units())
	w := New(s, -1, 0, nil)
	var got []api.Unit
	for range want {
		for u := range w.Units() {
			got = append(got, u)
			break
		}
	}
	for range w.Units() {
		t.Error("a unit after the last one")
	}
	if !slices.Equal(got, want) || !tree.Same(slices.Collect(w.Parts()), slices.Collect(whole.Parts())) {
		t.Error(got, want)
	}
	for range w.Parts() {
		break
	}
}

func TestPool(t *testing.T) {
	s := source(t, "a b c")
	w := New(s, -1, 0, nil)
	for range w.Units() {
	}
	old := slices.Collect(w.Parts())
	again := New(s, 0, 0, NewPool(old))
	// The word a, the decision for it, and all that follows at once.
	units := slices.Collect(again.Units())
	if !slices.Equal(units, []api.Unit{{Cost: 2, Read: 2}, {Cost: 1, Read: 2}, {Cost: 1, Read: 2}, {Cost: 1, Read: 6}}) {
		t.Error(units)
	}
	if got := slices.Collect(again.Parts()); !tree.Same(got, tree.Sub(old, 1)) {
		t.Error(got)
	}
	root := New(s, -1, 0, NewPool(old))
	if units := slices.Collect(root.Units()); !slices.Equal(units, []api.Unit{{Cost: 1, Read: 6}, {Cost: 1, Read: 6}, {Cost: 1, Read: 6}}) {
		t.Error("the tree of nonterminal 0 is taken for the fresh tree:", units)
	}
	if NewPool(nil) != nil {
		t.Error("a pool without a tree")
	}
}

func TestQueue(t *testing.T) {
	var q queue[string]
	q.put("a")
	q.put("b")
	q.take()
	q.put("c")
	if q.size() != 2 || q.at(0) != "b" || q.at(1) != "c" {
		t.Error(q)
	}
}
