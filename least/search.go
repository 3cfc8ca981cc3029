package least

import (
	"slices"

	"viewport/api"
	"viewport/dfa"
)

// Equal reports whether Run of a and b is the same for all strings.
func Equal(a, b api.Dfa) bool {
	if dfa.Check(a) != api.OK || dfa.Check(b) != api.OK {
		return false
	}
	_, differ := Witness(a, b)
	return !differ
}

// Witness returns the first string for which Run of a and b differs, and true, if there is one.
func Witness(a, b api.Dfa) (string, bool) {
	if dfa.Check(a) != api.OK || dfa.Check(b) != api.OK {
		return "", false
	}
	return search(a, b, func(s *step) bool { return ruleOf(a, s.a) != ruleOf(b, s.b) })
}

// Short returns the first string whose Run is rule, and true, if there is one.
func Short(d api.Dfa, rule int) (string, bool) {
	// Rules count from 0 on: a Run of -1 says that there is no rule, and is not one to be found.
	if dfa.Check(d) != api.OK || rule < 0 {
		return "", false
	}
	return search(d, d, func(s *step) bool { return ruleOf(d, s.a) == rule })
}

// step is a pair of states that a string leads to: its last byte, and the pair before that.
type step struct {
	a, b int
	by   byte
	from *step
}

// text returns the string that leads to s.
func (s *step) text() string {
	var l []byte
	for ; s.from != nil; s = s.from {
		l = append(l, s.by)
	}
	slices.Reverse(l)
	return string(l)
}

// search returns the first string that leads to a pair of states of a and b that is wanted.
func search(a, b api.Dfa, wanted func(s *step) bool) (string, bool) {
	columns := len(b.Rule) + 1
	seen := make([]bool, (len(a.Rule)+1)*columns)
	visit := func(s *step) bool {
		place := (s.a+1)*columns + s.b + 1
		was := seen[place]
		seen[place] = true
		return !was
	}
	queue := []*step{{}}
	visit(queue[0])
	for i := 0; i < len(queue); i++ {
		at := queue[i]
		if wanted(at) {
			return at.text(), true
		}
		for by := range width {
			next := &step{a: lead(a, at.a, by), b: lead(b, at.b, by), by: byte(by), from: at}
			if visit(next) {
				queue = append(queue, next)
			}
		}
	}
	return "", false
}

// lead returns the state to which a byte leads, dead if there is none.
func lead(d api.Dfa, state, by int) int {
	if state == dead {
		return dead
	}
	return d.Next[state*width+by]
}

// ruleOf returns what Run returns if it reaches a state.
func ruleOf(d api.Dfa, state int) int {
	if state == dead {
		return -1
	}
	return d.Rule[state]
}
