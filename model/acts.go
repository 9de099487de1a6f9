package model

import "dustcart/api"

// What an act needs that not all kinds do; needs are added up. Slot A is used by all kinds.
const (
	needB      = 1 << iota // slot B is used
	needShape              // the shape is valid
	objectInA              // slot A is not empty; indexes are those of its object
	objectInB              // slot B is not empty; indexes are those of its object
	needRef                // I is a reference of the object
	needWord               // I is a data word of the object
	needGlobal             // I is a global
)

// way is how acts of a kind are done: what they need, and what they do, if it is there, with the slots of their mutator.
type way struct {
	needs int
	do    func(m *Model, s *slots, a api.Act) api.Effect
}

func (w way) need(what int) bool {
	return w.needs&what != 0
}

// ways returns the ways to do acts, by their kinds.
func ways() [api.ActShape + 1]way {
	return [...]way{
		api.ActNew:    {needShape, (*Model).doNew},
		api.ActLoad:   {needB | objectInB | needRef, (*Model).doLoad},
		api.ActStore:  {needB | objectInA | needRef, (*Model).doStore},
		api.ActPut:    {objectInA | needWord, (*Model).doPut},
		api.ActGet:    {objectInA | needWord, (*Model).doGet},
		api.ActCopy:   {needB, (*Model).doCopy},
		api.ActDrop:   {0, (*Model).doDrop},
		api.ActSame:   {needB, (*Model).doSame},
		api.ActIdent:  {0, (*Model).doIdent},
		api.ActExport: {needGlobal, (*Model).doExport},
		api.ActImport: {needGlobal, (*Model).doImport},
		api.ActShape:  {objectInA, (*Model).doShape},
	}
}

// Do does an act of a mutator.
func (m *Model) Do(mutator int, a api.Act) (api.Effect, api.Errno) {
	if !m.made() {
		return api.Effect{}, api.ErrState
	}
	table := ways()
	if !m.hasMutator(mutator) || a.Kind < 0 || a.Kind >= len(table) {
		return api.Effect{}, api.ErrArg
	}
	w, s := table[a.Kind], &m.slots[mutator]
	if e := m.checkAct(w, s, a); e != api.OK {
		return api.Effect{}, e
	}
	return w.do(m, s, a), api.OK
}

// checkAct looks for what forbids an act, whose mutator and kind there are.
func (m *Model) checkAct(w way, s *slots, a api.Act) api.Errno {
	if !isSlot(a.A) || w.need(needB) && !isSlot(a.B) {
		return api.ErrArg
	}
	if w.need(needShape) && !isValid(a.Shape) {
		return api.ErrForm
	}
	if w.need(objectInA) && s[a.A] == 0 || w.need(objectInB) && s[a.B] == 0 {
		return api.ErrNil
	}
	if words, needed := m.indexed(w, s, a); needed && at(words, a.I) == nil {
		return api.ErrArg
	}
	return api.OK
}

// indexed returns the words of which I must be an index, if it must be one; the slots that must not be empty are not.
func (m *Model) indexed(w way, s *slots, a api.Act) ([]int, bool) {
	ident := s[a.A]
	if w.need(objectInB) {
		ident = s[a.B]
	}
	switch {
	case w.need(needRef):
		return m.refs(ident), true
	case w.need(needWord):
		return m.data(ident), true
	case w.need(needGlobal):
		return m.globals[:], true
	}
	return nil, false
}

func (m *Model) doNew(s *slots, a api.Act) api.Effect {
	s[a.A] = m.add(a.Shape)
	return api.Effect{Made: s[a.A]}
}

func (m *Model) doLoad(s *slots, a api.Act) api.Effect {
	s[a.A] = m.refs(s[a.B])[a.I]
	return api.Effect{Loaded: s[a.A]}
}

func (m *Model) doStore(s *slots, a api.Act) api.Effect {
	ref := &m.refs(s[a.A])[a.I]
	effect := api.Effect{Object: s[a.A], I: a.I, Old: *ref, New: s[a.B]}
	*ref = s[a.B]
	return effect
}

func (m *Model) doPut(s *slots, a api.Act) api.Effect {
	m.data(s[a.A])[a.I] = a.N
	return api.Effect{}
}

func (m *Model) doGet(s *slots, a api.Act) api.Effect {
	return told(m.data(s[a.A])[a.I])
}

func (m *Model) doCopy(s *slots, a api.Act) api.Effect {
	s[a.A] = s[a.B]
	return api.Effect{Loaded: s[a.A]}
}

func (m *Model) doDrop(s *slots, a api.Act) api.Effect {
	s[a.A] = 0
	return api.Effect{}
}

func (m *Model) doSame(s *slots, a api.Act) api.Effect {
	if s[a.A] == s[a.B] {
		return told(1)
	}
	return told(0)
}

func (m *Model) doIdent(s *slots, a api.Act) api.Effect {
	return told(s[a.A])
}

func (m *Model) doExport(s *slots, a api.Act) api.Effect {
	m.globals[a.I] = s[a.A]
	return api.Effect{}
}

func (m *Model) doImport(s *slots, a api.Act) api.Effect {
	s[a.A] = m.globals[a.I]
	return api.Effect{Loaded: s[a.A]}
}

func (m *Model) doShape(s *slots, a api.Act) api.Effect {
	shape := m.shape(s[a.A])
	return told(shape.Refs, shape.Data, shape.Kind)
}

// told is the effect of an act that only tells something.
func told(numbers ...int) api.Effect {
	return api.Effect{Told: numbers}
}
