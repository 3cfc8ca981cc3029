package engine

import (
	"maps"
	"slices"

	"viewport/api"
	"viewport/dirty"
	"viewport/fresh"
	"viewport/jobs"
	"viewport/machine"
	"viewport/shift"
	"viewport/splice"
	"viewport/target"
	"viewport/tree"
)

// state is everything that edits and ticks change, and the numbers of the configuration that they need.
type state struct {
	lang     *fresh.Lang
	terms, k int
	up, wait int
	room     int // the greatest number of jobs
	text     string
	tree     []api.Part
	jobs     []api.Dirty
	machines map[int]*machine.Machine // by the slots of their jobs
	view     api.Span
}

func begin(l *fresh.Lang, c api.Config, text string, t []api.Part) state {
	return state{
		lang: l, terms: c.Grammar.Terms, k: c.Grammar.K,
		up: c.Up, wait: c.Wait, room: c.Jobs,
		text: text, tree: t, machines: map[int]*machine.Machine{},
	}
}

// slots returns the slots that have machines, in order.
func (s *state) slots() []int {
	return slices.Sorted(maps.Keys(s.machines))
}

// edit does an edit that has no error.
func (s *state) edit(e api.Edit, ins string) {
	s.text = s.text[:e.At] + ins + s.text[e.At+e.Del:]
	all, slot, went, _ := dirty.Add(s.jobs, e, s.room)
	s.jobs = all
	for _, pair := range went {
		s.tree = splice.Give(s.tree, pair[0], pair[1])
		delete(s.machines, pair[0])
	}
	delete(s.machines, slot)
	bit := uint64(1) << slot
	s.tree = tree.Edit(s.tree, e, bit)
	s.tell(e, bit)
	s.view = shift.Move(s.view, e)
}

// tell tells the machines of an edit. Those whose runs do not go on are removed.
func (s *state) tell(e api.Edit, bit uint64) {
	for _, slot := range s.slots() {
		m := s.machines[slot]
		if m.Paid() == 0 {
			delete(s.machines, slot)
			continue
		}
		if !m.Edit(e, bit) {
			delete(s.machines, slot)
			s.level(slot, func(int) int { return 0 })
		}
	}
}

// level changes the Level of a job, if it exists.
func (s *state) level(slot int, change func(level int) int) {
	if j, ok := dirty.Find(s.jobs, slot); ok {
		j.Level = change(j.Level)
		s.jobs = dirty.Set(s.jobs, j)
	}
}

// tick works for at most quota steps, and returns how many it spent.
func (s *state) tick(quota int) int {
	if quota == 0 || len(s.jobs) == 0 {
		return 0
	}
	spent := 0
	var served []int
working:
	for spent < quota {
		slot, pending := jobs.Next(s.jobs, s.view, s.wait)
		if !pending {
			break working
		}
		s.jobs = jobs.Serve(s.jobs, slot)
		served = append(served, slot)
		m := s.machine(slot)
		steps, done, _ := m.Run(s.text, quota-spent)
		spent += steps
		if !done {
			break working
		}
		s.finish(slot, m)
	}
	s.jobs = jobs.Ticked(s.jobs, served)
	return spent
}

// machine returns the machine of a job, a new one if it has none.
func (s *state) machine(slot int) *machine.Machine {
	if m, ok := s.machines[slot]; ok {
		return m
	}
	j, _ := dirty.Find(s.jobs, slot)
	left, at, pool := target.Run(s.tree, target.Target(s.tree, j, s.up), s.terms)
	m, _ := machine.New(s.lang, left, at, pool)
	s.machines[slot] = m
	return m
}

// finish puts the tree of a machine that is done in its place, if it fits there, and removes the jobs that this does.
func (s *state) finish(slot int, m *machine.Machine) {
	delete(s.machines, slot)
	made, _ := m.Tree()
	if part, ok := s.place(m); ok {
		out, done, e := splice.Splice(s.tree, part, made, s.jobs)
		if e == api.OK {
			s.tree = out
		}
		for _, d := range done {
			s.jobs = dirty.Drop(s.jobs, d)
			delete(s.machines, d)
		}
	}
	s.level(slot, func(level int) int { return level + 1 })
}

// place returns the part for the tree of a machine.
func (s *state) place(m *machine.Machine) (int, bool) {
	if m.Left() < 0 {
		return 0, true
	}
	return tree.Find(s.tree, s.terms+m.Left(), m.At())
}
