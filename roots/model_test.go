package roots_test

import (
	"slices"

	"dustcart/api"
)

// keeper is what roots and their model have in common: acts are done with both, and what they tell is compared.
type keeper interface {
	Get(p api.Place) (int, api.Errno)
	Set(p api.Place, addr int) api.Errno
	Push(addr int) api.Errno
	Pop() (int, api.Errno)
	Places() []api.Place
	Leads() []int
	Queue() []int
	Replace(from, to []int) (int, api.Errno)
	Mutators() int
}

// model is roots as a list of fixed places, in order, with what they are, and a queue.
type model struct {
	mutators int
	fixed    []api.Place
	is       map[api.Place]int // all that are fixed, the empty ones too
	queue    []int
}

func newModel(mutators int) *model {
	m := &model{mutators: mutators, is: map[api.Place]int{}}
	for i := range mutators * 16 {
		m.fixed = append(m.fixed, api.Place{Kind: 0, Mutator: i / 16, Index: i % 16})
	}
	for i := range 16 {
		m.fixed = append(m.fixed, api.Place{Kind: 1, Index: i})
	}
	for _, p := range m.fixed {
		m.is[p] = 0
	}
	return m
}

func (m *model) clone() *model {
	c := newModel(m.mutators)
	for p, addr := range m.is {
		c.is[p] = addr
	}
	c.queue = slices.Clone(m.queue)
	return c
}

// all returns all places in order, the empty ones too.
func (m *model) all() []api.Place {
	list := slices.Clone(m.fixed)
	for i := range m.queue {
		list = append(list, api.Place{Kind: 2, Index: i})
	}
	return list
}

func (m *model) has(p api.Place) bool {
	if p.Kind == 2 {
		return p.Mutator == 0 && p.Index >= 0 && p.Index < len(m.queue)
	}
	_, there := m.is[p]
	return there
}

func (m *model) what(p api.Place) int {
	if p.Kind == 2 {
		return m.queue[p.Index]
	}
	return m.is[p]
}

func (m *model) let(p api.Place, addr int) {
	if p.Kind == 2 {
		m.queue[p.Index] = addr
	} else {
		m.is[p] = addr
	}
}

func (m *model) Get(p api.Place) (int, api.Errno) {
	if !m.has(p) {
		return 0, api.ErrArg
	}
	return m.what(p), api.OK
}

func (m *model) Set(p api.Place, addr int) api.Errno {
	if !m.has(p) || addr < 0 || p.Kind == 2 && addr == 0 {
		return api.ErrArg
	}
	m.let(p, addr)
	return api.OK
}

func (m *model) Push(addr int) api.Errno {
	if addr < 1 {
		return api.ErrArg
	}
	if len(m.queue) == 64 {
		return api.ErrFull
	}
	m.queue = append(m.queue, addr)
	return api.OK
}

func (m *model) Pop() (int, api.Errno) {
	if len(m.queue) == 0 {
		return 0, api.ErrNone
	}
	addr := m.queue[0]
	m.queue = m.queue[1:]
	return addr, api.OK
}

func (m *model) Places() []api.Place {
	return slices.DeleteFunc(m.all(), func(p api.Place) bool { return m.what(p) == 0 })
}

func (m *model) Leads() []int {
	var list []int
	for _, p := range m.Places() {
		if !slices.Contains(list, m.what(p)) {
			list = append(list, m.what(p))
		}
	}
	return list
}

func (m *model) Queue() []int {
	return slices.Clone(m.queue)
}

// Replace writes down what all places will be, and only then changes them.
func (m *model) Replace(from, to []int) (int, api.Errno) {
	if len(from) != len(to) {
		return 0, api.ErrArg
	}
	for i := range from {
		if from[i] < 1 || to[i] < 1 || i > 0 && from[i-1] >= from[i] {
			return 0, api.ErrArg
		}
	}
	will := map[api.Place]int{}
	for _, p := range m.all() {
		if i := slices.Index(from, m.what(p)); i >= 0 {
			will[p] = to[i]
		}
	}
	for p, addr := range will {
		m.let(p, addr)
	}
	return len(will), api.OK
}

func (m *model) Mutators() int {
	return m.mutators
}
