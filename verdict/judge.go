package verdict

import (
	"slices"

	"viewport/api"
	"viewport/dirty"
	"viewport/fresh"
	"viewport/marks"
	"viewport/paint"
	"viewport/parts"
	"viewport/shift"
	"viewport/tree"
)

// state is what a session is like after an act.
type state struct {
	text  string
	tree  []api.Part
	marks []int
	jobs  []api.Dirty
}

func stateOf(s api.Seen) state {
	return state{text: s.Text, tree: s.Tree, marks: s.Marks, jobs: s.Jobs}
}

// same reports whether two states are equal in everything.
func (a state) same(b state) bool {
	return a.text == b.text && tree.Same(a.tree, b.tree) && slices.Equal(a.marks, b.marks) && dirty.Same(a.jobs, b.jobs)
}

// judge has seen everything up to some act, and found nothing wrong.
type judge struct {
	config api.Config
	lang   *fresh.Lang
	before state
	known  struct { // the fresh tree of the last text, which most acts leave as it is
		text string
		tree []api.Part
	}
}

// rule is a reason to reject something that was seen.
type rule struct {
	why    int
	broken func(s api.Seen) bool
}

// rules returns all reasons in the order in which they count.
func (j *judge) rules() []rule {
	return []rule{
		{api.WhyErr, j.wrongErr},
		{api.WhyText, j.wrongText},
		{api.WhyJobs, j.wrongJobs},
		{api.WhyLocal, j.wrongLocal},
		{api.WhyFresh, j.wrongFresh},
		{api.WhySpent, j.wrongSpent},
		{api.WhyPaint, j.wrongPaint},
	}
}

// fresh returns the fresh tree of a text.
func (j *judge) fresh(text string) []api.Part {
	if text != j.known.text {
		j.known.text = text
		j.known.tree, _ = j.lang.Fresh(text)
	}
	return j.known.tree
}

func (j *judge) wrongErr(s api.Seen) bool {
	if s.Err != j.errOf(s.Act) {
		return true
	}
	return s.Err != api.OK && (!stateOf(s).same(j.before) || s.Spent != 0 || len(s.Paint) > 0)
}

// errOf returns the error of an act.
func (j *judge) errOf(a api.Act) api.Errno {
	n := len(j.before.text)
	wrong := false
	switch a.Kind {
	case api.ActEdit:
		e := editOf(a)
		if err := shift.Check(e, n); err != api.OK {
			return err
		}
		if shift.Len(e, n) > j.lang.Most() {
			return api.ErrLong
		}
	case api.ActView, api.ActPaint:
		wrong = a.From < 0 || a.From > a.To || a.To > n
	case api.ActTick:
		wrong = a.Quota < 0 || a.Quota > api.MaxQuota
	default:
		wrong = true
	}
	if wrong {
		return api.ErrArg
	}
	return api.OK
}

func editOf(a api.Act) api.Edit {
	return api.Edit{At: a.At, Del: a.Del, Ins: len(a.Ins)}
}

func (j *judge) wrongText(s api.Seen) bool {
	want := j.before.text
	if s.Err == api.OK && s.Act.Kind == api.ActEdit {
		want = want[:s.Act.At] + s.Act.Ins + want[s.Act.At+s.Act.Del:]
	}
	return s.Text != want
}

func (j *judge) wrongJobs(s api.Seen) bool {
	if tree.Check(s.Tree) != api.OK || dirty.Check(s.Jobs) != api.OK || len(s.Jobs) > j.config.Jobs {
		return true
	}
	if root := s.Tree[0]; root.Kind != api.PartRoot || root.At != 0 || root.To != len(s.Text) {
		return true
	}
	var slots uint64
	for _, d := range s.Jobs {
		slots |= 1 << d.Slot
	}
	if slices.ContainsFunc(s.Tree, func(p api.Part) bool { return p.Met&^slots != 0 }) {
		return true
	}
	return !slices.Equal(s.Marks, marks.Marks(s.Tree, j.config.Grammar.K, marks.First(s.Jobs)))
}

func (j *judge) wrongLocal(s api.Seen) bool {
	stale := tree.Stale(s.Tree)
	for i := 0; i < len(s.Tree); {
		if s.Tree[i].Kind != api.PartNon || stale[i] {
			i++
			continue
		}
		end := parts.End(s.Tree, i)
		if !j.fits(s.Text, parts.Shifted(s.Tree[i:end], -i)) {
			return true
		}
		// What is inside the right tree of a nonterminal is right by itself.
		i = end
	}
	return false
}

// fits reports whether a part with everything inside it is the tree of its nonterminal at its position.
func (j *judge) fits(text string, sub []api.Part) bool {
	p, g := sub[0], j.config.Grammar
	if p.Sym < g.Terms || p.Sym >= g.Terms+g.Nons {
		return false
	}
	want, e := j.lang.Tree(text, p.Sym-g.Terms, p.At)
	return e == api.OK && tree.Same(want, sub)
}

func (j *judge) wrongFresh(s api.Seen) bool {
	want := j.fresh(s.Text)
	if len(s.Jobs) == 0 && !tree.Same(s.Tree, want) {
		return true
	}
	n := names{}
	known := map[leaf]struct{}{}
	for _, x := range leavesOf(want, s.Text, n) {
		known[x] = struct{}{}
	}
	leaves := tree.Leaves(s.Tree)
	for at, x := range leavesOf(s.Tree, s.Text, n) {
		if _, is := known[x]; !is && s.Marks[leaves[at]] == api.MarkConfirmed {
			return true
		}
	}
	return false
}

func (j *judge) wrongSpent(s api.Seen) bool {
	changed := !tree.Same(s.Tree, j.before.tree) || !dirty.Same(s.Jobs, j.before.jobs)
	switch s.Act.Kind {
	case api.ActTick:
		if s.Spent < 0 || s.Spent > s.Act.Quota && s.Err == api.OK {
			return true
		}
		short := s.Err == api.OK && s.Spent < s.Act.Quota && len(s.Jobs) > 0
		idle := s.Spent > 0 && len(j.before.jobs) == 0
		return short || idle || s.Text != j.before.text
	case api.ActEdit:
		return s.Spent != 0
	}
	return s.Spent != 0 || changed || s.Text != j.before.text
}

func (j *judge) wrongPaint(s api.Seen) bool {
	if s.Act.Kind != api.ActPaint {
		return len(s.Paint) > 0
	}
	want, _ := paint.Of(s.Tree, s.Marks, j.config.Styles, s.Act.From, s.Act.To)
	return !slices.Equal(s.Paint, want)
}
