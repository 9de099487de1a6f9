package copying

import (
	"dustcart/api"
	"dustcart/heap"
)

// newBlocks are the blocks that objects are moved to: the free ones and, as if the heap went on behind its end, as many further ones as would be needed.
type newBlocks struct {
	free   []int // rising
	behind int   // the number of the first block that the heap does not have
	begun  int   // how many blocks
	place  int   // the free place
	left   int   // words from there to the end of its block
}

func newBlocksOf(h *heap.Heap) newBlocks {
	b := newBlocks{behind: h.Blocks()}
	for block := 1; block < h.Blocks(); block++ { // block 0 is never used
		if h.State(block) == api.BlockFree {
			b.free = append(b.free, block)
		}
	}
	return b
}

// take returns the address for the next object.
func (b *newBlocks) take(words int) int {
	if words > b.left {
		b.begin()
	}
	addr := b.place
	b.place += words
	b.left -= words
	return addr
}

func (b *newBlocks) begin() {
	block := b.behind + b.begun - len(b.free)
	if b.begun < len(b.free) {
		block = b.free[b.begun]
	}
	b.begun++
	b.place, b.left = block*api.BlockWords, api.BlockWords
}

// suffice reports whether there are enough free blocks.
func (b *newBlocks) suffice() bool {
	return b.begun <= len(b.free)
}

// claim claims the blocks that were begun, of which there must be enough.
func (b *newBlocks) claim(h *heap.Heap, space int) {
	for _, block := range b.free[:b.begun] {
		h.Claim(block, space)
	}
}
