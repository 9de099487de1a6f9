package alloc

import (
	"cmp"

	"dustcart/api"
)

// cursors are where an allocator goes on.
type cursors struct {
	main     area // what the chapter calls the cursor and the limit
	overflow area
}

// policy chooses where small objects are placed.
type policy interface {
	// choose returns the address for an object of some words, or 0, and the cursors as they are once it is placed. The address is in a gap, or the first one of a free block, which is to be claimed then.
	choose(r room, c cursors, words int) (int, cursors)
}

// policies returns the policies, by their numbers.
func policies() []policy {
	return []policy{first{}, best{}, next{}, bump{}, lines{}}
}

type first struct{}

func (first) choose(r room, c cursors, words int) (int, cursors) {
	return cmp.Or(r.lowestGap(0, words), r.freeBlocks(1)), c
}

type best struct{}

func (best) choose(r room, c cursors, words int) (int, cursors) {
	return cmp.Or(r.leastGap(words), r.freeBlocks(1)), c
}

type next struct{}

func (next) choose(r room, c cursors, words int) (int, cursors) {
	addr := cmp.Or(r.lowestGap(c.main.cursor, words), r.lowestGap(0, words), r.freeBlocks(1))
	c.main.cursor = addr + words
	return addr, c
}

type bump struct{}

func (bump) choose(r room, c cursors, words int) (addr int, after cursors) {
	addr, c.main = r.bump(c.main, words)
	return addr, c
}

type lines struct{}

func (lines) choose(r room, c cursors, words int) (addr int, after cursors) {
	switch {
	case c.main.fits(words):
		addr, c.main = r.bump(c.main, words)
	case words > api.LineWords:
		addr, c.overflow = r.bump(c.overflow, words)
	default: // every hole is large enough for an object of so few words
		addr, c.main = r.holeFrom(c.main.limit).take(words)
	}
	return addr, c
}
