package sweep

import (
	"slices"

	"dustcart/api"
	"dustcart/heap"
	"dustcart/side"
)

const (
	entryWords = 2 // marks have an entry for every two words of a heap
	markWidth  = 1
)

// Sweeper sweeps blocks one by one.
type Sweeper struct {
	heap  *heap.Heap
	marks *side.Table
	left  []int // rising
}

// New returns a sweeper.
func New(h *heap.Heap, t *side.Table) (*Sweeper, api.Errno) {
	if !areMarks(h, t) {
		return nil, api.ErrArg
	}
	return newSweeper(h, t.Clone()), api.OK
}

// areMarks reports whether a table is marks of a heap. A heap that is none has no blocks, and a table that is none has the width 0.
func areMarks(h *heap.Heap, t *side.Table) bool {
	return t.Width() == markWidth && t.Entries() == h.Blocks()*api.BlockWords/entryWords
}

// newSweeper returns a sweeper to which the marks belong.
func newSweeper(h *heap.Heap, marks *side.Table) *Sweeper {
	s := &Sweeper{heap: h, marks: marks}
	for block := range h.Blocks() {
		if state := h.State(block); state == api.BlockUsed || state == api.BlockHead {
			s.left = append(s.left, block)
		}
	}
	return s
}

// made tells a sweeper that a function of this package returned from a zero value: only the latter has no heap.
func (s *Sweeper) made() bool {
	return s != nil && s.heap != nil
}

// Block sweeps a block.
func (s *Sweeper) Block(b int) (int, api.Errno) {
	if !s.made() {
		return 0, api.ErrState
	}
	i, found := slices.BinarySearch(s.left, b)
	if !found {
		return 0, api.ErrNone
	}
	s.left = slices.Delete(s.left, i, i+1)
	return s.sweep(b), api.OK
}

// Need sweeps blocks until one has room.
func (s *Sweeper) Need(words int) (int, api.Errno) {
	if !s.made() {
		return 0, api.ErrState
	}
	if words < 1 || words > api.BlockWords {
		return 0, api.ErrArg
	}
	if len(s.left) == 0 {
		return 0, api.ErrNone
	}
	last := 0
	s.visit(func(block int) bool {
		s.sweep(block)
		last = block
		return s.hasRoom(block, words)
	})
	return last, api.OK
}

// Born marks an object that was placed meanwhile.
func (s *Sweeper) Born(addr int) api.Errno {
	if !s.made() {
		return api.ErrState
	}
	if !s.heap.Has(addr) {
		return api.ErrNone
	}
	// Only a clone on a greater heap has no entry for an object, which then lies in a block that is never left.
	s.marks.Set(addr/entryWords, 1)
	return api.OK
}

// Finish sweeps all blocks that are left.
func (s *Sweeper) Finish() (int, api.Errno) {
	if !s.made() {
		return 0, api.ErrState
	}
	return s.finish(), api.OK
}

func (s *Sweeper) finish() int {
	freed := 0
	s.visit(func(block int) bool {
		freed += s.sweep(block)
		return false
	})
	return freed
}

// visit does something to the blocks that are left, in their order, until it tells that this is enough. A block to which it was done is not left any more.
func (s *Sweeper) visit(do func(block int) (enough bool)) {
	for len(s.left) > 0 {
		block := s.left[0]
		s.left = s.left[1:]
		if do(block) {
			return
		}
	}
}

// sweep sweeps a block, and tells how many words were freed. The block may have become free, or a tail, meanwhile: no object begins in it then, and it cannot be released.
func (s *Sweeper) sweep(block int) int {
	used := s.heap.Used()
	for _, addr := range s.heap.Objects(block) {
		if s.marks.Get(addr/entryWords) != 1 {
			s.heap.Kill(addr)
		}
	}
	s.heap.Release(block) // which is refused if an object is in it
	return used - s.heap.Used()
}

// hasRoom reports whether a block has a gap of some words, or is free.
func (s *Sweeper) hasRoom(block, words int) bool {
	fits := func(gap api.Run) bool { return gap.Size >= words }
	return s.heap.State(block) == api.BlockFree || slices.ContainsFunc(s.heap.Gaps(block), fits)
}

// Left returns the blocks that are left.
func (s *Sweeper) Left() []int {
	if !s.made() {
		return nil
	}
	return slices.Clone(s.left)
}

// Clone returns a sweeper in the same state on another heap.
func (s *Sweeper) Clone(h *heap.Heap) *Sweeper {
	if !s.made() || h.Blocks() == 0 {
		return nil
	}
	return &Sweeper{heap: h, marks: s.marks.Clone(), left: slices.Clone(s.left)}
}
