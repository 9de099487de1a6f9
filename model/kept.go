package model

import "dustcart/api"

// search finds the kept objects of a model.
type search struct {
	m     *Model
	kept  []bool // by identities; there is no object 0
	found []int  // the kept objects, in the order in which they were found
	// waiting is what Ephemerons that were found lead to by their values, by their keys, which were not found yet. With it each object is looked at only once, however long a chain of Ephemerons is.
	waiting map[int][]int
}

// findKept returns for each identity whether there is a kept object with it.
func (m *Model) findKept() []bool {
	s := search{m: m, kept: make([]bool, len(m.objects)+1), waiting: map[int][]int{}}
	for _, row := range m.slots {
		s.reach(row[:]...)
	}
	s.reach(m.globals[:]...)
	s.reach(m.queue...)
	for next := 0; next < len(s.found); next++ {
		s.follow(s.found[next])
	}
	return s.kept
}

// reach notes objects that are kept; identities may be 0.
func (s *search) reach(idents ...int) {
	for _, ident := range idents {
		if ident != 0 && !s.kept[ident] {
			s.kept[ident] = true
			s.found = append(s.found, ident)
		}
	}
}

// follow reaches all that is kept because a kept object is.
func (s *search) follow(ident int) {
	kind, refs := s.m.shape(ident).Kind, s.m.refs(ident)
	s.reach(refs[loose[kind]:]...)
	s.reach(s.waiting[ident]...)
	if kind != api.Ephemeron {
		return
	}
	key, value := refs[0], refs[1]
	if s.kept[key] {
		s.reach(value)
	} else {
		s.waiting[key] = append(s.waiting[key], value)
	}
}

// Kept returns the identities of all kept objects.
func (m *Model) Kept() []int {
	if !m.made() {
		return nil
	}
	var list []int
	for ident, kept := range m.findKept() {
		if kept {
			list = append(list, ident)
		}
	}
	return list
}

// Collect clears references of kept objects that do not lead to kept objects.
func (m *Model) Collect() int {
	if !m.made() {
		return 0
	}
	changed := 0
	kept := m.findKept()
	for ident, isKept := range kept {
		if isKept && m.clearLoose(ident, kept) {
			changed++
		}
	}
	return changed
}

// clearLoose empties the references of an object that do not keep by themselves, if the first of them does not lead to a kept object; it tells whether one of them was not empty.
func (m *Model) clearLoose(ident int, kept []bool) bool {
	refs := m.refs(ident)[:loose[m.shape(ident).Kind]]
	if len(refs) == 0 || kept[refs[0]] {
		return false
	}
	changed := false
	for i, to := range refs {
		changed = changed || to != 0
		refs[i] = 0
	}
	return changed
}
