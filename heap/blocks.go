package heap

import "dustcart/api"

func (h *Heap) hasBlock(block int) bool {
	return 0 <= block && block < len(h.blocks)
}

// canBeUsed reports whether a block is one that may be claimed at some time: address 0 leads to nothing, so block 0 may not.
func (h *Heap) canBeUsed(block int) bool {
	return block != 0 && h.hasBlock(block)
}

func isSpace(space int) bool {
	return 0 <= space && space < api.MaxSpaces
}

// Claim claims a block for small objects.
func (h *Heap) Claim(block, space int) api.Errno {
	return h.claim(block, 1, space, api.BlockUsed)
}

// ClaimLarge claims blocks for a large object.
func (h *Heap) ClaimLarge(block, blocks, space int) api.Errno {
	return h.claim(block, blocks, space, api.BlockHead)
}

// claim claims some blocks; all but the first one become tails.
func (h *Heap) claim(block, blocks, space, state int) api.Errno {
	if !h.made() {
		return api.ErrState
	}
	// The number is compared with a difference, since block + blocks may be greater than any int.
	if !h.canBeUsed(block) || blocks < 1 || blocks > len(h.blocks)-block || !isSpace(space) {
		return api.ErrArg
	}
	group := h.blocks[block : block+blocks]
	for _, b := range group {
		if b != (blockState{}) {
			return api.ErrTaken
		}
	}
	for i := range group {
		group[i] = blockState{state: api.BlockTail, space: space}
	}
	group[0].state = state
	return api.OK
}

// group returns a used or head block, and the tails that follow it: no tail follows any block but its own head.
func (h *Heap) group(block int) []blockState {
	end := block + 1
	for end < len(h.blocks) && h.blocks[end].state == api.BlockTail {
		end++
	}
	return h.blocks[block:end]
}

func (h *Heap) isClaimed(block int) bool {
	state := h.blocks[block].state
	return state == api.BlockUsed || state == api.BlockHead
}

// Release makes a block free.
func (h *Heap) Release(block int) api.Errno {
	if !h.made() {
		return api.ErrState
	}
	if !h.canBeUsed(block) {
		return api.ErrArg
	}
	if !h.isClaimed(block) {
		return api.ErrState
	}
	if len(h.Objects(block)) > 0 {
		return api.ErrTaken
	}
	clear(h.group(block))
	return api.OK
}

// Retag gives a block a space.
func (h *Heap) Retag(block, space int) api.Errno {
	if !h.made() {
		return api.ErrState
	}
	if !h.canBeUsed(block) || !isSpace(space) {
		return api.ErrArg
	}
	if !h.isClaimed(block) {
		return api.ErrState
	}
	group := h.group(block)
	for i := range group {
		group[i].space = space
	}
	return api.OK
}

// Blocks returns the number of blocks.
func (h *Heap) Blocks() int {
	if !h.made() {
		return 0
	}
	return len(h.blocks)
}

// State returns the state of a block.
func (h *Heap) State(block int) int {
	if !h.made() || !h.hasBlock(block) {
		return -1
	}
	return h.blocks[block].state
}

// Space returns the space of a block.
func (h *Heap) Space(block int) int {
	if !h.made() || !h.hasBlock(block) {
		return -1
	}
	return h.blocks[block].space
}

// Objects returns the addresses of all objects that begin in a block.
func (h *Heap) Objects(block int) []int {
	if !h.made() || !h.hasBlock(block) {
		return nil
	}
	return h.firstPairs(block*blockPairs, (block+1)*blockPairs)
}

// All returns the addresses of all objects.
func (h *Heap) All() []int {
	if !h.made() {
		return nil
	}
	return h.firstPairs(0, h.pairs.Entries())
}

// firstPairs returns the addresses of the objects that begin in some pairs.
func (h *Heap) firstPairs(from, end int) []int {
	var list []int
	for i := from; i < end; i++ {
		if h.pairs.Get(i) == pairFirst {
			list = append(list, i*pairWords)
		}
	}
	return list
}

// Gaps returns the maximal runs of words of gaps of a used block.
func (h *Heap) Gaps(block int) []api.Run {
	if h.State(block) != api.BlockUsed {
		return nil
	}
	var gaps []api.Run
	at := block * api.BlockWords
	for _, addr := range h.Objects(block) {
		gaps = withGap(gaps, at, addr)
		at = addr + h.size(addr)
	}
	return withGap(gaps, at, (block+1)*api.BlockWords)
}

// withGap adds what lies between two objects, unless they touch.
func withGap(gaps []api.Run, from, end int) []api.Run {
	if from == end {
		return gaps
	}
	return append(gaps, api.Run{Start: from, Size: end - from})
}

// Lines returns for each line of a used block whether it is occupied.
func (h *Heap) Lines(block int) []bool {
	if h.State(block) != api.BlockUsed {
		return nil
	}
	lines := make([]bool, api.BlockLines)
	for _, addr := range h.Objects(block) {
		start := addr % api.BlockWords
		last := (start + h.size(addr) - 1) / api.LineWords
		for line := start / api.LineWords; line <= last; line++ {
			lines[line] = true
		}
	}
	return lines
}
