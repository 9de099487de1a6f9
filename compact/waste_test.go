package compact_test

import (
	"testing"

	"dustcart/api"
	"dustcart/compact"
	"dustcart/heap"
)

// Gaps before, between and behind objects, kept or not; blocks without objects before the last one and behind it.
func TestWaste(t *testing.T) {
	w := newWorld(t, 8, 1)
	w.wastes(0)
	w.claim(home, 2, 4, 6)
	w.wastes(0)
	w.put(64, words6)
	w.wastes(0)
	w.put(80, words4)
	w.wastes(10)
	w.put(192, words20) // block 3: block 2 is empty before it
	w.wastes(10 + 44 + 64)
	w.pin(80)
	w.wastes(118)
	w.put(384, words2) // block 6, and block 5 is free
	w.wastes(118 + 44 + 64)
	w.put(446, words2) // at the end of block 6
	w.wastes(226 + 60)
	w.put(386, words32)
	w.wastes(226 + 28)
	w.ok("Kill", w.h.Kill(446))
	w.wastes(226)
	w.ok("Kill", w.h.Kill(64))
	w.wastes(232)
}

// Each space for itself: an object of another one, or a large one, is behind nothing, and no word of blocks of large ones is a gap.
func TestWasteOfSpaces(t *testing.T) {
	w := newWorld(t, 12, 1)
	for space := range 3 {
		w.claim(space, 1+space)
	}
	w.put(192+10, words2) // space 2
	w.wastes(10)
	w.put(128, words2) // space 1
	w.wastes(10)
	w.claim(0, 4)
	w.put(256, words2) // space 0: block 1 is before it
	w.wastes(10 + 64)
	w.put(320, words34) // of the space home
	w.claim(home, 6)
	w.wastes(74)
	w.put(448, words218)
	w.wastes(74)
	w.ok("ClaimLarge", w.h.ClaimLarge(11, 1, home))
	w.wastes(74)
	w.ok("Retag", w.h.Retag(5, 0))
	w.ok("Retag", w.h.Retag(7, 2)) // behind what space 2 has
	w.wastes(74)
	w.ok("Retag", w.h.Retag(4, 1)) // then space 1 wastes what is behind 128, and space 0 nothing
	w.wastes(10 + 62)
}

// All blocks of the greatest heap, each with one object at its end.
func TestWasteOfGreatestHeap(t *testing.T) {
	w := newWorld(t, api.MaxBlocks, 1)
	for block := 1; block < api.MaxBlocks; block++ {
		w.claim(block%8, block)
		w.put(64*block+62, words2)
	}
	w.wastes(63 * 62)
}

func TestWasteOfNone(t *testing.T) {
	for _, h := range []*heap.Heap{nil, {}} {
		if n, e := compact.Waste(h); n != 0 || e != api.ErrArg {
			t.Errorf("Waste: %d, error %d", n, e)
		}
	}
}
