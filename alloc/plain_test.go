package alloc_test

import (
	"dustcart/api"
	"dustcart/heap"
)

// plain is an allocator that looks at one word after the other, on a heap of its own.
type plain struct {
	h             *heap.Heap
	space, policy int
	at            [4]int // the cursor, the limit, and the two for overflow
}

func (p *plain) words() int { return 64 * p.h.Blocks() }

// isGap tells whether a word is one of a gap of a used block of the space.
func (p *plain) isGap(addr int) bool {
	_, e := p.h.Find(addr)
	return e == api.ErrNone && p.h.State(addr/64) == api.BlockUsed && p.h.Space(addr/64) == p.space
}

// room counts the words of a gap from an address on.
func (p *plain) room(addr int) int {
	n := 0
	for p.isGap(addr+n) && (n == 0 || (addr+n)%64 != 0) {
		n++
	}
	return n
}

func (p *plain) gapFrom(addr, words int) int {
	for ; addr < p.words(); addr++ {
		if p.room(addr) >= words {
			return addr
		}
	}
	return 0
}

func (p *plain) smallestGap(words int) int {
	found := 0
	for addr := range p.words() {
		begins := addr%64 == 0 || !p.isGap(addr-1)
		if begins && p.room(addr) >= words && (found == 0 || p.room(addr) < p.room(found)) {
			found = addr
		}
	}
	return found
}

func (p *plain) freeBlocks(n int) int {
	for block := 1; block+n <= p.h.Blocks(); block++ {
		free := 0
		for free < n && p.h.State(block+free) == api.BlockFree {
			free++
		}
		if free == n {
			return 64 * block
		}
	}
	return 0
}

// isOpen tells whether a line of the heap is one that is not occupied, of a block of the space.
func (p *plain) isOpen(line int) bool {
	for i := range 8 {
		if !p.isGap(8*line + i) {
			return false
		}
	}
	return true
}

func (p *plain) holeFrom(addr int) (int, int) {
	for line := (addr + 7) / 8; line < p.words()/8; line++ {
		if !p.isOpen(line) || line%8 > 0 && p.isOpen(line-1) {
			continue
		}
		end := line + 1
		for end%8 > 0 && p.isOpen(end) {
			end++
		}
		return 8 * line, 8 * end
	}
	block := p.freeBlocks(1)
	return block, block + 64
}

// where returns the address for a small object, or 0, and the cursors after it.
func (p *plain) where(words int) (int, [4]int) {
	at := p.at
	addr := 0
	switch p.policy {
	case 0:
		addr = p.gapFrom(0, words)
	case 1:
		addr = p.smallestGap(words)
	case 2:
		addr = p.gapFrom(at[0], words)
		if addr == 0 {
			addr = p.gapFrom(0, words)
		}
	default:
		return p.along(words)
	}
	if addr == 0 {
		addr = p.freeBlocks(1)
	}
	if p.policy == 2 {
		at[0] = addr + words
	}
	return addr, at
}

// along is where for the policies Bump and Lines.
func (p *plain) along(words int) (int, [4]int) {
	at, i, begins := p.at, 0, false
	if at[1]-at[0] < words {
		if p.policy == 4 && words > 8 {
			i = 2
		}
		if at[i+1]-at[i] < words {
			begins = true
			at[i] = p.freeBlocks(1)
			at[i+1] = at[i] + 64
			if p.policy == 4 && words <= 8 {
				at[0], at[1] = p.holeFrom(p.at[1])
			}
		}
	}
	addr := at[i]
	if !begins && p.room(addr) < words {
		return 0, p.at
	}
	at[i] += words
	return addr, at
}

func (p *plain) Alloc(s api.Shape) (int, api.Errno) {
	if !heap.Valid(s) {
		return 0, api.ErrForm
	}
	words := heap.Words(s)
	blocks := (words + 63) / 64
	addr, at := p.freeBlocks(blocks), p.at
	if words <= 32 {
		addr, at = p.where(words)
	}
	if addr == 0 {
		return 0, api.ErrFull
	}
	if words > 32 {
		p.h.ClaimLarge(addr/64, blocks, p.space)
	} else if p.h.State(addr/64) == api.BlockFree {
		p.h.Claim(addr/64, p.space)
	}
	p.h.Place(addr, s)
	p.at = at
	return addr, api.OK
}
