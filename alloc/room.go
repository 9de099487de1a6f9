package alloc

import (
	"iter"
	"slices"

	"dustcart/api"
	"dustcart/heap"
)

// area is the words from a cursor to a limit.
type area struct {
	cursor, limit int
}

func (a area) fits(words int) bool {
	return a.cursor+words <= a.limit
}

// take returns where an object begins that is placed at the cursor, and what is left of the area then.
func (a area) take(words int) (int, area) {
	return a.cursor, area{cursor: a.cursor + words, limit: a.limit}
}

// room is a heap, and the space of its blocks in which objects are placed. Where a function finds no place it returns the address 0, which no object has.
type room struct {
	heap  *heap.Heap
	space int
}

// owns reports whether a block is a used one of the space.
func (r room) owns(block int) bool {
	return r.heap.State(block) == api.BlockUsed && r.heap.Space(block) == r.space
}

// blocks yields the used blocks of the space, rising.
func (r room) blocks(yield func(int) bool) {
	for block := range r.heap.Blocks() {
		if r.owns(block) && !yield(block) {
			return
		}
	}
}

// gaps yields the gaps of the blocks, by their addresses, without the part before an address; nothing may be left of a gap then.
func (r room) gaps(from int) iter.Seq[area] {
	return func(yield func(area) bool) {
		for block := range r.blocks {
			for _, gap := range r.heap.Gaps(block) {
				if !yield(area{cursor: max(gap.Start, from), limit: gap.Start + gap.Size}) {
					return
				}
			}
		}
	}
}

// lowestGap returns the first address, from some one on, at which a gap has room for some words.
func (r room) lowestGap(from, words int) int {
	for gap := range r.gaps(from) {
		if gap.fits(words) {
			return gap.cursor
		}
	}
	return 0
}

// leastGap returns the address of the smallest gap that has room for some words.
func (r room) leastGap(words int) int {
	addr, least := 0, api.BlockWords+1
	for gap := range r.gaps(0) {
		if size := gap.limit - gap.cursor; gap.fits(words) && size < least {
			addr, least = gap.cursor, size
		}
	}
	return addr
}

// isGap reports whether words lie within a gap of one of the blocks.
func (r room) isGap(addr, words int) bool {
	block := addr / api.BlockWords
	if !r.owns(block) {
		return false
	}
	return slices.ContainsFunc(r.heap.Gaps(block), func(gap api.Run) bool {
		return gap.Start <= addr && addr+words <= gap.Start+gap.Size
	})
}

// freeBlocks returns the address of the first blocks of which so many follow one another that are free.
func (r room) freeBlocks(count int) int {
	run := 0
	for block := 1; block < r.heap.Blocks(); block++ { // block 0 is never used
		if r.heap.State(block) != api.BlockFree {
			run = 0
			continue
		}
		run++
		if run == count {
			return (block + 1 - count) * api.BlockWords
		}
	}
	return 0
}

// freeBlock returns the free block with the least number; the area that begins at 0, if there is none.
func (r room) freeBlock() area {
	addr := r.freeBlocks(1)
	return area{cursor: addr, limit: addr + api.BlockWords}
}

// bump returns where an object of some words begins that is placed at the cursor of an area, or, if too few words are left, in a new block, and what is left of that then.
func (r room) bump(a area, words int) (int, area) {
	if !a.fits(words) {
		return r.freeBlock().take(words)
	}
	// A collection or others may have used the words since the area was begun, or its block, and a hole may have been taken in the area for overflow.
	if !r.isGap(a.cursor, words) {
		return 0, a
	}
	return a.take(words)
}

// holeFrom returns the first hole that begins at an address or behind it; the free block with the least number, if there is none.
func (r room) holeFrom(from int) area {
	for block := range r.blocks {
		for _, hole := range holes(r.heap.Lines(block)) {
			start := block*api.BlockWords + hole.Start*api.LineWords
			if start >= from {
				return area{cursor: start, limit: start + hole.Size*api.LineWords}
			}
		}
	}
	return r.freeBlock()
}

// holes returns the maximal runs of lines of a block that are not occupied.
func holes(occupied []bool) []api.Run {
	var runs []api.Run
	for line, taken := range occupied {
		switch {
		case taken:
		case line > 0 && !occupied[line-1]:
			runs[len(runs)-1].Size++
		default:
			runs = append(runs, api.Run{Start: line, Size: 1})
		}
	}
	return runs
}

// blocksFor returns how many blocks a large object of some words lies in.
func blocksFor(words int) int {
	return (words + api.BlockWords - 1) / api.BlockWords
}

// claimFor claims the blocks of the object of some words that is to be placed at an address, unless that is in a gap.
func (r room) claimFor(addr, words int) {
	block := addr / api.BlockWords
	switch {
	case words > api.LargeWords:
		r.heap.ClaimLarge(block, blocksFor(words), r.space)
	case r.heap.State(block) == api.BlockFree:
		r.heap.Claim(block, r.space)
	}
}
