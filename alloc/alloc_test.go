package alloc_test

import (
	"testing"

	"dustcart/api"
	"dustcart/heap"
)

// The chapter's first example.
func TestExampleOfGaps(t *testing.T) {
	b := newBoth(t, 4, First)
	b.place(6, 64)
	b.place(2, 70)
	b.place(6, 72)
	b.kill(64)
	b.place(4, 64)
	b.place(4, 78)
	b.place(2, 68)
}

// The chapter's second example.
func TestExampleOfLines(t *testing.T) {
	b := newBoth(t, 4, Lines)
	b.claim(2, 1)
	b.put(72, 8)
	b.place(4, 64)
	b.place(4, 68)
	for addr := 80; addr < 120; addr += 8 {
		b.place(8, addr)
	}
	b.place(10, 128)
	b.place(8, 120)
}

func TestNew(t *testing.T) {
	for _, blocks := range []int{2, 3, api.MaxBlocks} {
		for space := range api.MaxSpaces {
			for policy := range policies {
				b := newBoth(t, blocks, policy).other(space, policy)
				b.same("a new allocator")
				if b.a.Space() != space || b.a.Policy() != policy {
					t.Errorf("New(h, %d, %d): space %d, policy %d", space, policy, b.a.Space(), b.a.Policy())
				}
				b.cursor(0, 0, 0, 0)
				b.place(4, 64)
			}
		}
	}
}

// P5.7: small objects of all numbers of words, from the fewest to the most; the first one begins block 1, and fits.
func TestSmallObjects(t *testing.T) {
	for policy := range policies {
		for words := 2; words <= 32; words += 2 {
			b := newBoth(t, 3, policy)
			b.place(words, 64)
			if b.h.State(1) != api.BlockUsed || b.h.Space(1) != 2 || b.h.State(2) != api.BlockFree || b.h.Used() != words {
				t.Errorf("policy %d, %d words: states %d, %d, space %d, %d words used", policy, words, b.h.State(1), b.h.State(2), b.h.Space(1), b.h.Used())
			}
			b.place(words, 64+words)
		}
	}
}

// P5.7: each OK makes one object with the shape, whose references and data words are 0; words are rounded up.
func TestShapes(t *testing.T) {
	shapes := []api.Shape{
		{}, {Refs: 1}, {Refs: 1, Data: 2}, {Refs: 1, Kind: api.Weak}, {Refs: 2, Kind: api.Ephemeron}, {Kind: api.Special},
		{Refs: 15, Data: 15}, {Refs: 15, Data: 14, Kind: api.Ephemeron}, {Data: 29}, {Data: 30, Kind: api.Special},
	}
	for policy := range policies {
		b := newBoth(t, 10, policy)
		for i, s := range append(shapes, api.Shape{Data: 31}, api.Shape{Refs: 15, Data: 55, Kind: api.Weak}) {
			addr, e := b.alloc(s)
			b.same("after Alloc")
			ident, _ := b.h.Ident(addr)
			shape, _ := b.h.Shape(addr)
			if e != api.OK || ident != i+1 || shape != s || b.h.Births() != i+1 || len(b.h.All()) != i+1 {
				t.Errorf("policy %d: Alloc(%v): error %d, identity %d, shape %v, %d births, %d objects", policy, s, e, ident, shape, b.h.Births(), len(b.h.All()))
			}
			for n := range s.Refs + s.Data {
				if v, _ := b.h.Word(addr + 2 + n); v != 0 {
					t.Errorf("policy %d: Alloc(%v): word %d is %d", policy, s, n, v)
				}
			}
		}
	}
}

// A block that is begun is the free one with the least number, wherever the last one was.
func TestBlocksThatAreBegun(t *testing.T) {
	for policy := range policies {
		b := newBoth(t, 8, policy)
		b.claim(3, 1, 3)
		b.do("ClaimLarge", func(h *heap.Heap) api.Errno { return h.ClaimLarge(5, 2, 2) })
		b.place(32, 128)
		b.place(32, 160)
		b.place(32, 256)
		b.place(32, 288)
		b.release(3)
		b.place(32, 192)
		b.place(32, 224)
		b.place(32, 448)
		b.place(32, 480)
		b.refused(sized(32), api.ErrFull)
		b.release(1)
		b.place(32, 64)
		b.place(32, 96)
		b.refused(sized(2), api.ErrFull)
	}
}

// P5.1: gaps of blocks of other spaces, and of heads and tails, are none of an allocator; those of used blocks that others claimed are, but for Bump.
func TestBlocksOfTheSpace(t *testing.T) {
	want := [policies]int{320, 320, 320, 384, 320}
	for policy := range policies {
		b := newBoth(t, 8, policy)
		b.claim(0, 1)
		b.claim(7, 2)
		b.do("ClaimLarge", func(h *heap.Heap) api.Errno { return h.ClaimLarge(3, 2, 2) })
		b.claim(2, 5) // the space of newBoth
		b.place(8, want[policy])
		b.retag(1, 2)
		b.place(8, [policies]int{64, 328, 328, 392, 328}[policy])
	}
}

// A heap of two blocks has one block for objects.
func TestHeapOfTwoBlocks(t *testing.T) {
	for policy := range policies {
		b := newBoth(t, 2, policy)
		b.refused(sized(66), api.ErrFull)
		b.place(2, 64)
		b.place(28, 66)
		b.place(32, 94)
		b.refused(sized(4), api.ErrFull)
		b.refused(sized(32), api.ErrFull)
		b.refused(sized(34), api.ErrFull)
		b.place(2, 126)
		b.refused(sized(2), api.ErrFull)

		b = newBoth(t, 2, policy)
		b.place(64, 64)
		b.refused(sized(2), api.ErrFull)
		b.refused(sized(34), api.ErrFull)
		b.kill(64)
		b.refused(sized(2), api.ErrFull)
		b.release(1)
		b.place(34, 64)
	}
}

// The last block of the greatest heap, and its last words.
func TestGreatestHeap(t *testing.T) {
	for policy := range policies {
		b := newBoth(t, api.MaxBlocks, policy)
		for block := 1; block < api.MaxBlocks-1; block++ {
			b.gaps(block, 2)
		}
		last := 64 * (api.MaxBlocks - 1)
		b.place(2, last)
		b.place(28, last+2)
		b.place(32, last+30)
		b.refused(sized(4), api.ErrFull)
		b.place(2, last+62)
		b.refused(sized(2), api.ErrFull)
	}
}

// Only the policies Next, Bump and Lines have a cursor, only the last two a limit, and only the last one words for overflow.
func TestCursor(t *testing.T) {
	type placed struct {
		words, addr int
		cursor      [4]int
	}
	for policy, list := range [policies][]placed{
		First: {{30, 64, [4]int{}}, {32, 94, [4]int{}}, {32, 128, [4]int{}}, {2, 126, [4]int{}}},
		Best:  {{30, 64, [4]int{}}, {32, 94, [4]int{}}, {32, 128, [4]int{}}, {2, 126, [4]int{}}},
		Next:  {{30, 64, [4]int{94}}, {32, 94, [4]int{126}}, {32, 128, [4]int{160}}, {32, 160, [4]int{192}}, {2, 126, [4]int{128}}},
		Bump:  {{30, 64, [4]int{94, 128}}, {32, 94, [4]int{126, 128}}, {32, 128, [4]int{160, 192}}, {2, 160, [4]int{162, 192}}},
		Lines: {{2, 64, [4]int{66, 128}}, {28, 66, [4]int{94, 128}}, {32, 94, [4]int{126, 128}}, {32, 128, [4]int{126, 128, 160, 192}}, {2, 126, [4]int{128, 128, 160, 192}}, {2, 160, [4]int{162, 192, 160, 192}}},
	} {
		b := newBoth(t, 6, policy)
		for _, x := range list {
			b.place(x.words, x.addr)
			b.cursor(x.cursor[:]...)
		}
		b.reset()
		b.cursor(0, 0, 0, 0)
	}
}

// Large objects change no cursor.
func TestCursorAfterLargeObjects(t *testing.T) {
	for policy := range policies {
		b := newBoth(t, 8, policy)
		b.place(10, 64)
		b.place(50, 128)
		before := cursorOf(b.a)
		b.place(66, 192)
		b.cursor(before[:]...)
		b.place(32, 74)
	}
}
