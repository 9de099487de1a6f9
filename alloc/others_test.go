package alloc_test

import (
	"testing"

	"dustcart/api"
	"dustcart/heap"
)

// ahead is an allocator with the policy Bump or Lines that has an object at 64, and its cursor at 74.
func ahead(t *testing.T, policy int) both {
	t.Helper()
	b := newBoth(t, 6, policy)
	b.place(4, 64)
	b.place(6, 68)
	b.cursor(74, 128, 0, 0)
	return b
}

// over is an allocator with the policy Lines whose area for overflow begins at 138, and of whose hole two words are left.
func over(t *testing.T) both {
	t.Helper()
	b := newBoth(t, 6, Lines)
	b.place(2, 64)
	b.place(30, 66)
	b.place(30, 96)
	b.place(10, 128)
	b.cursor(126, 128, 138, 192)
	return b
}

// bothCursors calls a test for the cursor of Bump, that of Lines, and that for overflow. The cursor is 10 words behind the beginning of its block.
func bothCursors(t *testing.T, test func(b both, block int)) {
	t.Helper()
	test(ahead(t, Bump), 1)
	test(ahead(t, Lines), 1)
	test(over(t), 2)
}

// Somebody else placed an object at the cursor, or over its last words; one behind the words that are needed does not matter.
func TestWordsAtTheCursorAreUsed(t *testing.T) {
	bothCursors(t, func(b both, block int) {
		at := 64*block + 10
		for _, addr := range []int{at, at + 2, at + 8} {
			c := b.clone()
			c.put(addr, 2)
			c.refused(sized(10), api.ErrFull)
			c.refused(sized(32), api.ErrFull)
			c.kill(addr)
			c.place(10, at)
		}
		c := b.clone()
		c.put(at+10, 2)
		c.refused(sized(12), api.ErrFull)
		c.place(10, at)
		c.refused(sized(10), api.ErrFull)
		c.kill(at + 10)
		c.place(10, at+10)
	})
}

// An object that was moved to the cursor, as by a collection, uses the words there.
func TestCollectionAtTheCursor(t *testing.T) {
	bothCursors(t, func(b both, block int) {
		at := 64*block + 10
		b.do("Move", func(h *heap.Heap) api.Errno { return h.Move(at-10, at) })
		b.refused(sized(10), api.ErrFull)
		b.reset()
		b.do("Move", func(h *heap.Heap) api.Errno { return h.Move(at, at-10) })
		addr, e := b.alloc(sized(10))
		if e != api.OK {
			t.Errorf("after Reset: %d, error %d", addr, e)
		}
	})
}

// The block of the cursor has another space now.
func TestBlockIsAnotherOnes(t *testing.T) {
	bothCursors(t, func(b both, block int) {
		b.retag(block, 3)
		b.refused(sized(10), api.ErrFull)
		b.refused(sized(32), api.ErrFull)
		c := b.clone()
		c.reset()
		c.place(10, 64*(block+1))
		b.retag(block, 2)
		b.place(10, 64*block+10)
	})
}

// The block of the cursor was released: it is free, was claimed for another space, is a head or a tail, or is one of the allocator's space again.
func TestBlockWasReleased(t *testing.T) {
	bothCursors(t, func(b both, block int) {
		for _, addr := range b.h.Objects(block) {
			b.kill(addr)
		}
		b.release(block)
		at := 64*block + 10
		b.refused(sized(10), api.ErrFull)
		c := b.clone()
		c.claim(3, block)
		c.refused(sized(10), api.ErrFull)
		for _, large := range []int{block, block - 1} {
			c = b.clone()
			if large == 0 || c.h.State(large) != api.BlockFree {
				continue
			}
			c.do("ClaimLarge", func(h *heap.Heap) api.Errno { return h.ClaimLarge(large, block-large+1, 2) })
			c.refused(sized(10), api.ErrFull)
		}
		c = b.clone()
		c.claim(2, block)
		c.place(10, at)
		c = b.clone()
		c.reset()
		c.place(10, 64*block)
	})
}

func TestCursorInATail(t *testing.T) {
	b := ahead(t, Bump)
	b.place(32, 74)
	b.place(32, 128)
	b.kill(64, 68, 74, 128)
	b.release(1, 2)
	b.do("ClaimLarge", func(h *heap.Heap) api.Errno { return h.ClaimLarge(1, 2, 2) })
	b.refused(sized(2), api.ErrFull)
	b.reset()
	b.place(2, 192)
}

// A small object does not take the next hole, or begin a block, as long as the words at the cursor would be enough; one of more words than are left does.
func TestOtherWordsThanAtTheCursor(t *testing.T) {
	b := ahead(t, Lines)
	b.place(32, 74)
	b.place(20, 106)
	b.claim(2, 2)
	b.put(126, 2)
	b.refused(sized(2), api.ErrFull)
	b.place(4, 128)
	b = ahead(t, Bump)
	b.place(32, 74)
	b.place(20, 106)
	b.put(126, 2)
	b.refused(sized(2), api.ErrFull)
	b.place(4, 128)
}

// The cursor of Next is only where the search begins.
func TestNextMindsNobody(t *testing.T) {
	b := newBoth(t, 4, Next)
	b.place(10, 64)
	b.put(74, 2)
	b.place(10, 76)
	b.retag(1, 3)
	b.place(10, 128)
	b.retag(1, 2)
	b.retag(2, 3)
	b.kill(64)
	b.place(10, 64)
}

// Two allocators of one space: each one uses what the other one left, Bump and Lines never a block that the other one began but for its holes.
func TestTwoAllocatorsOfOneSpace(t *testing.T) {
	first, second := [policies]int{74, 74, 74, 128, 80}, [policies]int{84, 84, 84, 74, 74}
	for policy := range policies {
		b := newBoth(t, 6, policy)
		c := b.other(2, policy)
		b.place(2, 64)
		b.place(8, 66)
		c.place(8, first[policy])
		b.same("after an act of the other allocator")
		if policy <= Next {
			b.place(2, 82)
			c.place(2, second[policy])
			continue
		}
		b.place(4, second[policy])
		c.place(2, first[policy]+8)
	}
}

// Two allocators of two spaces share nothing but free blocks.
func TestTwoAllocatorsOfTwoSpaces(t *testing.T) {
	for policy := range policies {
		for another := range policies {
			b := newBoth(t, 4, policy)
			c := b.other(3, another)
			b.place(2, 64)
			c.place(2, 128)
			b.place(2, 66)
			c.place(2, 130)
			c.place(60, 192)
			b.place(32, 68)
			b.same("after acts of two allocators")
			c.same("after acts of two allocators")
		}
	}
}

// A hole of one allocator can be taken by another one, too; the words that the first one used are lost to the second one.
func TestTwoAllocatorsInOneHole(t *testing.T) {
	b := newBoth(t, 3, Lines)
	c := b.other(2, Lines)
	b.place(8, 64)
	c.place(8, 72)
	b.refused(sized(8), api.ErrFull)
	c.place(8, 80)
	b.reset()
	b.place(8, 88)
	c.refused(sized(2), api.ErrFull)
}
