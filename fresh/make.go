package fresh

import (
	"slices"

	"viewport/api"
	"viewport/lexer"
	"viewport/walk"
)

// batch is the number of tokens that are asked of the lexer at once: each time it checks its whole table.
const batch = 32

// make returns the tree of a nonterminal at a position, or, for -1, the fresh tree.
func (l *Lang) make(text string, left, at int) []api.Part {
	w := walk.New(walk.Source{
		Grammar: l.grammar,
		Bytes:   len(text),
		Token:   l.tokens(text),
		Predict: l.Predict,
		Behind:  l.Behind,
	}, left, at, nil)
	for range w.Units() {
		// What the work costs does not matter here.
	}
	return slices.Collect(w.Parts())
}

// tokens returns a function that tells one token after the other, from the position on for which it is called first.
func (l *Lang) tokens(text string) func(at int) api.Token {
	var ahead []api.Token
	return func(at int) api.Token {
		if len(ahead) == 0 {
			for t := range lexer.Each(l.lexer, text, at) {
				ahead = append(ahead, t)
				if len(ahead) == batch {
					break
				}
			}
		}
		t := ahead[0]
		ahead = ahead[1:]
		return t
	}
}
