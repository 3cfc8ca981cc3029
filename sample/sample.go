// Package sample has data for the tests: languages, and grammars, texts and trees that are made by chance. The chance is the caller's: a function like rand.Intn.
package sample

import (
	"slices"

	"viewport/api"
)

// Language is a language, and bytes of which its texts consist.
type Language struct {
	Rules   []api.Rule
	Grammar api.Grammar
	Bytes   string
}

// Prod returns a production.
func Prod(left int, right ...int) api.Prod {
	return api.Prod{Left: left, Right: right}
}

// Words is the language of the document's examples: words with gaps between them; nonterminal 0 is a word and 0, or nothing.
func Words() Language {
	return Language{
		Rules:   []api.Rule{rule("word", "[a-z]+"), gap("[ ]+")},
		Grammar: api.Grammar{Terms: 1, Nons: 1, K: 1, Prods: []api.Prod{Prod(0, 0, 1), Prod(0)}},
		Bytes:   "ab  1",
	}
}

// Sums are numbers, signs and parentheses.
func Sums() Language {
	return Language{
		Rules:   []api.Rule{rule("number", "[0-9]+"), rule("plus", "[+]"), rule("open", "[(]"), rule("close", "[)]"), gap(" ")},
		Grammar: api.Grammar{Terms: 4, Nons: 3, K: 1, Prods: []api.Prod{Prod(0, 6, 5), Prod(1, 1, 6, 5), Prod(1), Prod(2, 0), Prod(2, 2, 4, 3)}},
		Bytes:   "12++(()) x",
	}
}

// Statements need two tokens to be decided; comments are trivia that look far ahead.
func Statements() Language {
	return Language{
		Rules:   []api.Rule{rule("name", "[a-z]+"), rule("is", "="), rule("stop", ";"), rule("begin", "{"), rule("end", "}"), gap("[ \n]|#.*\n")},
		Grammar: api.Grammar{Terms: 5, Nons: 2, K: 2, Prods: []api.Prod{Prod(0, 6, 5), Prod(0), Prod(1, 0, 1, 0, 2), Prod(1, 0, 2), Prod(1, 3, 5, 4)}},
		Bytes:   "ab=;;{} #\n!",
	}
}

// Letters need three tokens to be decided, and their lexer looks far ahead.
func Letters() Language {
	return Language{
		Rules:   []api.Rule{rule("a", "a(bcb)?"), rule("b", "b|bc"), rule("c", "c")},
		Grammar: api.Grammar{Terms: 3, Nons: 3, K: 3, Prods: []api.Prod{Prod(0, 4, 5, 0), Prod(0, 1, 3), Prod(1, 0, 0, 1), Prod(1, 0, 0, 2), Prod(1, 0, 1), Prod(2), Prod(2, 2, 2)}},
		Bytes:   "aabbcc-",
	}
}

// Languages returns all of them.
func Languages() []Language {
	return []Language{Words(), Sums(), Statements(), Letters()}
}

func rule(name, regex string) api.Rule {
	return api.Rule{Name: name, Regex: regex}
}

func gap(regex string) api.Rule {
	return api.Rule{Name: "gap", Regex: regex, Trivia: true}
}

// Config returns a configuration of a language, with a style for its first kind of token.
func (l Language) Config(up, wait, jobs int) api.Config {
	return api.Config{Rules: l.Rules, Grammar: l.Grammar, Styles: []api.Style{{Kind: 0, Style: 1}}, Up: up, Wait: wait, Jobs: jobs}
}

// Text returns a text of fewer than n bytes.
func (l Language) Text(intn func(n int) int, n int) string {
	text := make([]byte, intn(n))
	for i := range text {
		text[i] = l.Bytes[intn(len(l.Bytes))]
	}
	return string(text)
}

// Edit returns an edit of a text that removes and inserts few bytes, what it inserts, and the text after it.
func (l Language) Edit(intn func(n int) int, text string) (e api.Edit, ins, after string) {
	e.At = intn(len(text) + 1)
	e.Del = intn(min(len(text)-e.At, 4) + 1)
	ins = l.Text(intn, 5)
	e.Ins = len(ins)
	return e, ins, text[:e.At] + ins + text[e.At+e.Del:]
}

// Grammar returns a valid grammar with at most so many terminals, nonterminals and productions.
func Grammar(intn func(n int) int, terms, nons, prods int) api.Grammar {
	g := api.Grammar{Terms: 1 + intn(terms), Nons: 1 + intn(nons), K: 1 + intn(api.MaxK)}
	for range 1 + intn(prods) {
		p := Prod(intn(g.Nons))
		for range intn(4) {
			p.Right = append(p.Right, intn(g.Terms+g.Nons))
		}
		g.Prods = append(g.Prods, p)
	}
	return g
}

// Empties returns a grammar with one production for each nonterminal, whose right side is nonterminals.
func Empties(rights ...[]int) api.Grammar {
	g := api.Grammar{Terms: 1, Nons: len(rights), K: 1}
	for n, right := range rights {
		p := Prod(n)
		for _, m := range right {
			p.Right = append(p.Right, 1+m)
		}
		g.Prods = append(g.Prods, p)
	}
	return g
}

// Tower returns a grammar in which each nonterminal is the next one several times, and the last one is nothing.
func Tower(height, width int) api.Grammar {
	rights := make([][]int, height)
	for n := range height - 1 {
		rights[n] = slices.Repeat([]int{n + 1}, width)
	}
	return Empties(rights...)
}

// MostConst returns a grammar whose Const is MaxConst, 15 * (1 + 6 * 728) + 1: its nonterminal 0 is nothing after 728 replacements.
func MostConst() api.Grammar {
	return Empties([]int{1, 5, 5, 5, 12}, []int{2}, []int{3}, []int{4}, []int{5, 12, 6, 6, 10}, []int{6}, []int{7, 12, 8, 10, 10, 10}, []int{8}, []int{9}, []int{10, 10, 10, 13, 10}, []int{11}, []int{12}, []int{13, 14, 13, 14}, []int{14}, nil)
}

// OverConst returns a grammar whose Const is one more than MaxConst, 16 * (1 + 5 * 819) + 1.
func OverConst() api.Grammar {
	return Empties([]int{1, 1, 7, 15, 15}, []int{2}, []int{3}, []int{4}, []int{5}, []int{6, 10, 7, 14, 11}, []int{7, 15, 14}, []int{8, 11, 11, 10, 15}, []int{9, 14, 15}, []int{10}, []int{11}, []int{12, 12, 12, 15, 12}, []int{13}, []int{14}, []int{15, 15, 15, 15}, nil)
}

// Trees makes valid trees.
type Trees struct {
	Intn func(n int) int
	Sym  func() int    // of a part
	Met  func() uint64 // of a part
	Gaps bool          // whether there are bytes in no leaf
}

// Grow returns a tree whose first part is of a kind and at a position.
func (t Trees) Grow(kind, at, depth int) []api.Part {
	return t.grow(nil, kind, at, depth)
}

func (t Trees) grow(l []api.Part, kind, at, depth int) []api.Part {
	i := len(l)
	l = append(l, api.Part{Sym: t.Sym(), Kind: kind, At: at, In: at, To: at, Look: at + 1 + t.Intn(4), Met: t.Met()})
	switch kind {
	case api.PartTok, api.PartSkip, api.PartEnd:
		l[i].In += t.Intn(3)
		l[i].To = l[i].In + t.Intn(3)
	case api.PartRoot, api.PartNon:
		for range t.Intn(4) {
			if depth == 0 {
				break
			}
			k := len(l)
			l = t.grow(l, t.kind(), l[i].To+t.gap(), depth-1)
			l[i].Kids = append(l[i].Kids, k)
			l[i].To = l[k].To
		}
		l[i].To += t.gap()
	}
	return l
}

// kind returns the kind of a part that is inside another one: that of a nonterminal more often than others.
func (t Trees) kind() int {
	if t.Intn(3) == 0 {
		return api.PartNon
	}
	return api.PartNon + t.Intn(5)
}

// gap returns how many bytes come before or after a part that are in no leaf.
func (t Trees) gap() int {
	if t.Gaps && t.Intn(6) == 0 {
		return 1
	}
	return 0
}
