package copying_test

import (
	"testing"

	"dustcart/api"
	"dustcart/copying"
)

// halves makes as many kept objects of half a block, two in each block from block 1 on, in a heap of some blocks.
func halves(t *testing.T, blocks, objects int) world {
	t.Helper()
	w := newWorld(t, blocks, 1)
	for i := range objects {
		w.push(w.put(64+32*i, words32))
	}
	return w
}

// P9.5: just as many free blocks as Room says, one fewer, and none; and more.
func TestRoomIsEnough(t *testing.T) {
	for objects := 1; objects <= 12; objects++ {
		need := (objects + 1) / 2
		for free := range need + 2 {
			for _, order := range []int{oldest, newest} {
				w := halves(t, 1+need+free, objects)
				w.room(order, need)
				if free < need {
					w.refuses(3, order, api.ErrFull)
					continue
				}
				n := 32 * objects
				if x, _ := w.collect(3, order); x != (api.Report{Kept: objects, KeptWords: n, Moved: objects, MovedWords: n, Scanned: objects}) {
					t.Errorf("Collect: %+v", x)
				}
				w.again(3)
			}
		}
	}
}

// Free blocks need not be next to one another; a block that is claimed is not free, even without objects.
func TestRoomOfScatteredBlocks(t *testing.T) {
	w := halves(t, 12, 7) // blocks 1 to 4
	w.claim(5, 6)
	w.ok("ClaimLarge", w.h.ClaimLarge(8, 2, 0))
	w.room(oldest, 4)
	w.refuses(0, oldest, api.ErrFull) // blocks 7, 10 and 11 are free
	w.ok("Release", w.h.Release(5))
	w.collects(0, oldest, api.Report{Kept: 7, KeptWords: 224, Moved: 7, MovedWords: 224, Scanned: 7},
		api.Move{From: 64, To: 320}, api.Move{From: 96, To: 352}, api.Move{From: 128, To: 448}, api.Move{From: 160, To: 480},
		api.Move{From: 192, To: 640}, api.Move{From: 224, To: 672}, api.Move{From: 256, To: 704})
	w.again(0)
}

// Blocks that become free by a collection are not there during it: not those of what is moved, nor of what is killed.
func TestRoomIsNotOfOldBlocks(t *testing.T) {
	w := newWorld(t, 4, 1)
	w.lead(w.put(64, words2))
	w.put(128, words32)
	w.put(192, words34)
	w.room(newest, 1)
	w.refuses(0, newest, api.ErrFull)
	w.ok("Kill", w.h.Kill(192))
	w.refuses(0, newest, api.ErrFull)
	w.ok("Release", w.h.Release(3))
	w.collects(0, newest, api.Report{Kept: 1, KeptWords: 2, Freed: 1, FreedWords: 32, Moved: 1, MovedWords: 2, Scanned: 1}, api.Move{From: 64, To: 192})
	w.states(0, 0, 1)
}

// Without a free block a collection is done if nothing has to be moved.
func TestNoRoomIsNeeded(t *testing.T) {
	w := newWorld(t, 7, 1)
	dead, pinned, large := w.put(64, words2), w.put(66, words4), w.put(192, words218)
	w.put(128, words32)
	w.pin(pinned)
	none, some := w.clone(), w.clone()
	w.lead(pinned, large)
	w.room(oldest, 0)
	w.collects(2, oldest, api.Report{Kept: 2, KeptWords: 222, Freed: 2, FreedWords: 34, Scanned: 2})
	w.states(1, 0, 2, 3, 3, 3)
	none.room(newest, 0)
	none.collects(2, newest, api.Report{Freed: 4, FreedWords: 256})
	none.states(0, 0, 0, 0, 0, 0)
	some.lead(pinned, large, dead)
	some.room(oldest, 1)
	some.refuses(2, oldest, api.ErrFull)
}

// More blocks can be needed than there were, as objects come in another order.
func TestRoomOfMoreBlocks(t *testing.T) {
	w := newWorld(t, 6, 1)
	for _, addr := range []int{64, 128, 96, 150, 172} {
		s := words32
		if addr >= 128 {
			s = map[int]api.Shape{128: words22, 150: words22, 172: words20}[addr]
		}
		w.push(w.put(addr, s))
	}
	w.room(oldest, 3)
	w.fill(5)
	w.refuses(1, oldest, api.ErrFull)
	w.ok("Kill", w.h.Kill(320))
	w.ok("Release", w.h.Release(5))
	w.collects(1, oldest, api.Report{Kept: 5, KeptWords: 128, Moved: 5, MovedWords: 128, Scanned: 5},
		api.Move{From: 64, To: 192}, api.Move{From: 128, To: 224}, api.Move{From: 96, To: 256}, api.Move{From: 150, To: 288}, api.Move{From: 172, To: 320})
	w.again(1)
}

// The orders can need different numbers of blocks: 12 + 32, 22 + 32, and 20 words, or 12 + 32 + 20, and 32 + 22.
func TestRoomOfOrders(t *testing.T) {
	w := newWorld(t, 6, 1)
	x := w.node(192, api.Plain, w.put(64, words32), w.put(96, words22))
	y := w.node(196, api.Plain, w.put(128, words32), w.put(160, words20))
	w.lead(w.node(200, api.Plain, x, y))
	w.room(oldest, 3)
	w.room(newest, 2)
	w.refuses(0, oldest, api.ErrFull)
	w.collects(0, newest, api.Report{Kept: 7, KeptWords: 118, Moved: 7, MovedWords: 118, Scanned: 7},
		api.Move{From: 200, To: 256}, api.Move{From: 192, To: 260}, api.Move{From: 196, To: 264},
		api.Move{From: 128, To: 268}, api.Move{From: 160, To: 300}, api.Move{From: 64, To: 320}, api.Move{From: 96, To: 352})
	w.again(0)
}

// A heap of which every word is kept, and then half of the blocks, and one fewer.
func TestRoomOfFullHeaps(t *testing.T) {
	for _, order := range []int{oldest, newest} {
		w := newWorld(t, api.MaxBlocks, 1)
		last := 0
		for addr := 64; addr < 64*api.MaxBlocks; addr += 32 {
			w.put(addr, api.Shape{Refs: 1, Data: 29})
			w.refs(addr, last)
			last = addr
		}
		w.lead(last)
		w.room(order, 63)
		w.refuses(0, order, api.ErrFull)
		w.lead(64*33 - 32) // the last object of block 32
		w.room(order, 32)
		w.refuses(0, order, api.ErrFull)
		for block := 33; block < api.MaxBlocks; block++ {
			w.ok("Kill", w.h.Kill(64*block))
			w.ok("Kill", w.h.Kill(64*block+32))
			w.ok("Release", w.h.Release(block))
		}
		w.room(order, 32)
		w.refuses(0, order, api.ErrFull) // 31 blocks are free
		w.lead(64*32 - 32)
		w.room(order, 31)
		if x, _ := w.collect(0, order); x.Kept != 62 || x.Freed != 2 || x.Moved != 62 {
			t.Errorf("Collect: %+v", x)
		}
		w.again(0)
	}
}

// P9.8: ErrFull ahead of anything that is cleared, killed, released or moved.
func TestFullChangesNothing(t *testing.T) {
	w := newWorld(t, 8, 2)
	dead := w.put(64, words2)
	weak := w.node(66, api.Weak, dead)
	pair := w.node(70, api.Ephemeron, dead, weak)
	w.put(128, words34) // not kept
	w.claim(3)
	w.ok("ClaimLarge", w.h.ClaimLarge(4, 2, 1))
	w.put(384, words32)
	w.put(416, words32)
	w.ok("Move", w.h.Move(dead, 100))
	w.refs(weak, 100)
	w.refs(pair, 100)
	w.lead(weak, pair, 384, 416)
	w.push(384, weak)
	for space := range api.MaxSpaces {
		for _, order := range []int{oldest, newest} {
			w.room(order, 2)
			w.refuses(space, order, api.ErrFull)
		}
	}
	w.set(slot(0, 3), 0)
	w.collects(0, oldest, api.Report{Kept: 3, KeptWords: 40, Freed: 3, FreedWords: 68, Moved: 3, MovedWords: 40, Scanned: 3, Cleared: 2},
		api.Move{From: 66, To: 448}, api.Move{From: 70, To: 452}, api.Move{From: 384, To: 456})
	w.states(0, 0, 0, 0, 0, 0, 1)
}

// Room that changes nothing: however often, and in whatever order, both are called.
func TestRoomChangesNothing(t *testing.T) {
	w, _, _, _, _ := tree(t, 4)
	w.node(90, api.Weak, 64)
	w.node(94, api.Ephemeron, 90, 64)
	w.put(98, words2)
	w.refs(90, 98)
	w.lead(76, 90, 94)
	before, c := w.state(), w.clone()
	for i := range 6 {
		if n, e := copying.Room(w.h, w.r, i%2); n != 1 || e != api.OK {
			t.Errorf("Room: %d, error %d", n, e)
		}
	}
	w.unchanged("after Room", before)
	w.collect(0, oldest)
	c.collect(0, oldest)
	w.as(c, "after Room and Collect, held against Collect")
}
