package compact

import (
	"slices"

	"dustcart/api"
	"dustcart/heap"
	"dustcart/side"
	"dustcart/trace"
)

const (
	entryWords = 2 // marks have an entry for every two words of a heap
	markWidth  = 1
)

// The places that the objects of a row get.
const (
	noPlace  = iota // the object is killed
	oldPlace        // it stays
	newPlace        // it slides, if it can
)

// areMarks reports whether a table is marks of a heap. A heap that is none has no blocks, and a table that is none has the width 0.
func areMarks(h *heap.Heap, t *side.Table) bool {
	return t.Width() == markWidth && t.Entries() == h.Blocks()*api.BlockWords/entryWords
}

// placeOf returns which place an object of a row gets.
func placeOf(h *heap.Heap, marks *side.Table, addr int) int {
	switch {
	case !trace.Marked(h, marks, addr):
		return noPlace
	case h.Pinned(addr):
		return oldPlace
	default:
		return newPlace
	}
}

// plan returns the moves of the spaces from first on, before behind.
func plan(h *heap.Heap, marks *side.Table, first, behind int) []api.Move {
	var moves []api.Move
	for space := first; space < behind; space++ {
		moves = append(moves, slides(h, marks, blocksOf(h, space))...)
	}
	return moves
}

// blocksOf returns the used blocks of a space, which are its row. Large objects are in none of them, so that they stay.
func blocksOf(h *heap.Heap, space int) []int {
	var list []int
	for block := range h.Blocks() {
		if h.State(block) == api.BlockUsed && h.Space(block) == space {
			list = append(list, block)
		}
	}
	return list
}

// slides returns the moves of a row.
func slides(h *heap.Heap, marks *side.Table, blocks []int) []api.Move {
	var moves []api.Move
	left := newRow(h, marks, blocks)
	for _, block := range blocks {
		for _, addr := range h.Objects(block) {
			if placeOf(h, marks, addr) != newPlace {
				continue
			}
			if to := left.take(wordsAt(h, addr)); to != addr {
				moves = append(moves, api.Move{From: addr, To: to})
			}
		}
	}
	return moves
}

// row is what is left of the used blocks of a space, which are filled from the first one on.
type row struct {
	blocks []int     // from the one on that is being filled
	place  int       // the least address that is left
	fixed  []api.Run // the words of objects that stay
}

func newRow(h *heap.Heap, marks *side.Table, blocks []int) *row {
	r := &row{blocks: blocks}
	for _, block := range blocks {
		for _, addr := range h.Objects(block) {
			if placeOf(h, marks, addr) == oldPlace {
				r.fixed = append(r.fixed, api.Run{Start: addr, Size: wordsAt(h, addr)})
			}
		}
	}
	return r
}

// take returns the least address for an object, and leaves what is behind it. There always is one, as no object of the row gets a greater address than it has: its own words are behind all that were taken for those before it.
func (r *row) take(words int) int {
	for {
		block := r.blocks[0]
		r.place = max(r.place, block*api.BlockWords)
		if r.place+words > (block+1)*api.BlockWords {
			r.blocks = r.blocks[1:]
		} else if i := r.firstOf(words); i >= 0 {
			r.place = r.fixed[i].Start + r.fixed[i].Size
		} else {
			r.place += words
			return r.place - words
		}
	}
}

// firstOf returns the index of the first object that stays of which one of the next words is (-1: there is none).
func (r *row) firstOf(words int) int {
	return slices.IndexFunc(r.fixed, func(f api.Run) bool {
		return f.Start < r.place+words && r.place < f.Start+f.Size
	})
}
