package alloc_test

import (
	"testing"

	"dustcart/api"
	"dustcart/heap"
)

// Large objects of all numbers of words: of one block, just over one, and of the most.
func TestLargeObjects(t *testing.T) {
	for policy := range policies {
		for words := 34; words <= 202; words += 2 {
			blocks := map[bool]int{words <= 64: 1, words > 64 && words <= 128: 2, words > 128 && words <= 192: 3, words > 192: 4}[true]
			b := newBoth(t, 6, policy)
			b.place(words, 64)
			for block := 1; block < 6; block++ {
				state, space := api.BlockFree, 0
				if block <= blocks {
					state, space = api.BlockTail, 2
				}
				if block == 1 {
					state = api.BlockHead
				}
				if b.h.State(block) != state || b.h.Space(block) != space {
					t.Errorf("policy %d, %d words: block %d has the state %d, the space %d", policy, words, block, b.h.State(block), b.h.Space(block))
				}
			}
			if b.h.Used() != words || b.h.Births() != 1 {
				t.Errorf("policy %d, %d words: %d words used, %d births", policy, words, b.h.Used(), b.h.Births())
			}
		}
	}
}

// Objects with references are large by all their words; the largest one has 218.
func TestLargestObject(t *testing.T) {
	for policy := range policies {
		b := newBoth(t, 5, policy)
		addr, e := b.alloc(api.Shape{Refs: 15, Data: 200, Kind: api.Ephemeron})
		if addr != 64 || e != api.OK || b.h.Used() != 218 {
			t.Errorf("policy %d: %d, error %d, %d words used", policy, addr, e, b.h.Used())
		}
		b.same("after Alloc of the largest object")
		b = newBoth(t, 4, policy)
		b.refused(api.Shape{Refs: 15, Data: 200}, api.ErrFull)
		b.refused(api.Shape{Data: 191}, api.ErrFull)
		b.place(192, 64)

		b = newBoth(t, 3, policy)
		addr, e = b.alloc(api.Shape{Refs: 15, Data: 16})
		if addr != 64 || e != api.OK || b.h.State(1) != api.BlockHead {
			t.Errorf("policy %d: 33 words, rounded up: %d, error %d, state %d", policy, addr, e, b.h.State(1))
		}
		addr, e = b.alloc(api.Shape{Refs: 15, Data: 15})
		if addr != 128 || e != api.OK || b.h.State(2) != api.BlockUsed {
			t.Errorf("policy %d: 32 words: %d, error %d, state %d", policy, addr, e, b.h.State(2))
		}
	}
}

// Runs of free blocks that are just long enough, too short by one, or parted by a block that is used, a head, or a tail; of a longer run the first blocks are taken.
func TestRunsOfFreeBlocks(t *testing.T) {
	for policy := range policies {
		b := newBoth(t, 18, policy)
		b.claim(2, 2)
		b.claim(3, 5)
		b.do("ClaimLarge", func(h *heap.Heap) api.Errno { return h.ClaimLarge(9, 2, 2) })
		b.claim(0, 14)
		c := b.clone()
		b.place(40, 64)     // block 1
		b.place(70, 3*64)   // blocks 3 and 4
		b.place(66, 6*64)   // 6 and 7
		b.place(130, 11*64) // 11 to 13
		b.place(192, 15*64) // 15 to 17, the last ones
		b.place(64, 8*64)   // 8
		b.refused(sized(34), api.ErrFull)
		b.refused(sized(200), api.ErrFull)

		c.refused(sized(194), api.ErrFull)
		c.place(192, 6*64)
		c.place(192, 11*64)
		c.place(192, 15*64)
		c.refused(sized(130), api.ErrFull)
		c.release(5)
		c.place(130, 3*64)
	}
}

// Large objects are never placed in gaps, and their blocks are no gaps, not even after they are killed.
func TestGapsAreNoRoomForLargeObjects(t *testing.T) {
	for policy := range policies {
		b := newBoth(t, 5, policy)
		b.claim(2, 1, 2, 3)
		b.place(34, 256)
		b.kill(256)
		b.refused(sized(34), api.ErrFull)
		b.refused(sized(64), api.ErrFull)
		if policy != Bump {
			b.place(8, 64)
		} else {
			b.refused(sized(8), api.ErrFull)
		}
		b.release(4)
		b.place(64, 256)
	}
}
