package engine

import (
	"math/rand"
	"slices"
	"testing"

	"viewport/api"
	"viewport/dirty"
	"viewport/fresh"
	"viewport/jobs"
	"viewport/machine"
	"viewport/shift"
	"viewport/splice"
	"viewport/target"
	"viewport/tree"
)

// model is a session in the words of the document, one line for each of its sentences.
type model struct {
	c        api.Config
	lang     *fresh.Lang
	text     string
	tree     []api.Part
	jobs     []api.Dirty
	machines [64]*machine.Machine
	view     api.Span
}

func (m *model) edit(at, del int, ins string) {
	if del == 0 && ins == "" {
		return
	}
	e := api.Edit{At: at, Del: del, Ins: len(ins)}
	m.text = m.text[:at] + ins + m.text[at+del:]
	var slot int
	var went [][2]int
	m.jobs, slot, went, _ = dirty.Add(m.jobs, e, m.c.Jobs)
	for _, w := range went {
		m.tree = splice.Give(m.tree, w[0], w[1])
		m.machines[w[0]] = nil
	}
	m.tree = tree.Edit(m.tree, e, 1<<slot)
	m.machines[slot] = nil
	for i, x := range m.machines {
		if x == nil {
			continue
		}
		if x.Paid() == 0 {
			m.machines[i] = nil
		} else if !x.Edit(e, 1<<slot) {
			m.machines[i] = nil
			j, _ := dirty.Find(m.jobs, i)
			j.Level = 0
			m.jobs = dirty.Set(m.jobs, j)
		}
	}
	m.view = shift.Move(m.view, e)
}

func (m *model) tick(quota int) int {
	if quota == 0 || len(m.jobs) == 0 {
		return 0
	}
	var served []int
	spent := 0
	for len(m.jobs) > 0 && spent < quota {
		slot, _ := jobs.Next(m.jobs, m.view, m.c.Wait)
		m.jobs = jobs.Serve(m.jobs, slot)
		served = append(served, slot)
		if m.machines[slot] == nil {
			j, _ := dirty.Find(m.jobs, slot)
			left, at, pool := target.Run(m.tree, target.Target(m.tree, j, m.c.Up), m.c.Grammar.Terms)
			m.machines[slot], _ = machine.New(m.lang, left, at, pool)
		}
		x := m.machines[slot]
		n, done, _ := x.Run(m.text, quota-spent)
		spent += n
		if !done {
			continue
		}
		m.machines[slot] = nil
		made, _ := x.Tree()
		i, ok := 0, true
		if x.Left() >= 0 {
			i, ok = tree.Find(m.tree, m.c.Grammar.Terms+x.Left(), x.At())
		}
		if ok && splice.Fits(m.tree, i, made) {
			out, gone, _ := splice.Splice(m.tree, i, made, m.jobs)
			m.tree = out
			for _, s := range gone {
				m.jobs = dirty.Drop(m.jobs, s)
				m.machines[s] = nil
			}
		}
		if j, ok := dirty.Find(m.jobs, slot); ok {
			j.Level++
			m.jobs = dirty.Set(m.jobs, j)
		}
	}
	m.jobs = jobs.Ticked(m.jobs, served)
	return spent
}

func (m *model) paid() int {
	sum := 0
	for _, x := range m.machines {
		sum += x.Paid()
	}
	return sum
}

func TestP27_2Model(t *testing.T) {
	r := rand.New(rand.NewSource(2))
	reset, twice := 0, 0
	for _, x := range languages() {
		for range 250 {
			c := x.config
			c.Up, c.Wait, c.Jobs = r.Intn(5), 1+r.Intn(6), 1+r.Intn(6)
			text := x.Text(r.Intn, 60)
			s := open(t, c, text)
			m := &model{c: c, lang: s.Lang(), text: text, tree: s.Tree()}
			most := 1 + r.Intn(30)
			for range 40 {
				switch r.Intn(6) {
				case 0, 1:
					e, ins, _ := x.Edit(r.Intn, m.text)
					before := slices.Clone(m.jobs)
					m.edit(e.At, e.Del, ins)
					s.Edit(e.At, e.Del, ins)
					for _, j := range before {
						if k, ok := dirty.Find(m.jobs, j.Slot); ok && j.Level > 0 && k.Level == 0 {
							reset++
						}
					}
				case 2:
					from := r.Intn(len(m.text) + 1)
					m.view = api.Span{From: from, To: from}
					s.View(from, from)
				default:
					quota := r.Intn(most)
					before := len(m.jobs)
					want := m.tick(quota)
					if before > len(m.jobs)+1 {
						twice++
					}
					if got, e := s.Tick(quota); got != want || e != api.OK {
						t.Fatalf("Tick %d: %d, %d, not %d", quota, got, e, want)
					}
				}
				if s.Text() != m.text || !tree.Same(s.Tree(), m.tree) || !slices.Equal(s.Jobs(), m.jobs) || s.Seen() != m.view || s.Paid() != m.paid() {
					t.Fatalf("%q, %v, %v, %d, not %q, %v, %v, %d", s.Text(), s.Jobs(), s.Seen(), s.Paid(), m.text, m.jobs, m.view, m.paid())
				}
			}
		}
	}
	if reset < 50 || twice < 20 {
		t.Error("few Levels were reset, or jobs done together:", reset, twice)
	}
}
