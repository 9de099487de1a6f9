package trace

import (
	"slices"

	"dustcart/api"
	"dustcart/heap"
	"dustcart/side"
)

const (
	entryWords = 2 // objects have even addresses, so marks need an entry for every two words only
	markWidth  = 1
)

// marks are a heap, and a table that tells which of its objects are marked.
type marks struct {
	heap  *heap.Heap
	table *side.Table
}

func newMarks(h *heap.Heap) marks {
	table, _ := side.New(entries(h), markWidth)
	return marks{heap: h, table: table}
}

// entries returns how many entries the marks of a heap have.
func entries(h *heap.Heap) int {
	return h.Blocks() * api.BlockWords / entryWords
}

// made reports whether the heap is one, and the table is marks of it: a heap that is none has no blocks, and a table that is none has the width 0.
func (m marks) made() bool {
	return m.table.Width() == markWidth && m.table.Entries() == entries(m.heap)
}

// has reports whether there is an object with an address, and it is marked.
func (m marks) has(addr int) bool {
	return m.heap.Has(addr) && m.table.Get(addr/entryWords) == 1
}

// add marks the object with an address; it tells whether there is one that was not marked before.
func (m marks) add(addr int) bool {
	if !m.heap.Has(addr) {
		return false
	}
	added, _ := m.table.Swap(addr/entryWords, 0, 1)
	return added
}

// all returns the addresses of all objects that are marked now, rising.
func (m marks) all() []int {
	return slices.DeleteFunc(m.heap.All(), func(addr int) bool { return !m.has(addr) })
}

// values returns what a round looks at: what the references 1 of marked Ephemerons lead to whose references 0 lead to marked objects, as all of them are marked now.
func (m marks) values() []int {
	var list []int
	for _, addr := range m.all() {
		s, _ := m.heap.Shape(addr)
		key, _ := m.heap.Ref(addr, 0)
		if s.Kind == api.Ephemeron && m.has(key) {
			value, _ := m.heap.Ref(addr, 1)
			list = append(list, value)
		}
	}
	return list
}

// clearLoose empties the references of an object that are not strong, if the first of them does not lead to a marked object; it tells whether one of them was not empty.
func (m marks) clearLoose(addr int) bool {
	if key, _ := m.heap.Ref(addr, 0); m.has(key) {
		return false
	}
	s, _ := m.heap.Shape(addr)
	changed := false
	for i := range loose(s.Kind) {
		to, _ := m.heap.Ref(addr, i)
		changed = changed || to != 0
		m.heap.SetRef(addr, i, 0)
	}
	return changed
}

// loose returns how many of the first references of an object of a kind are not strong. It has all of these references.
func loose(kind int) int {
	switch kind {
	case api.Weak:
		return 1
	case api.Ephemeron:
		return 2
	default:
		return 0
	}
}

// strong returns the strong references of an object, in their order.
func strong(h *heap.Heap, addr int) []int {
	s, _ := h.Shape(addr)
	var list []int
	for i := loose(s.Kind); i < s.Refs; i++ {
		to, _ := h.Ref(addr, i)
		list = append(list, to)
	}
	return list
}
