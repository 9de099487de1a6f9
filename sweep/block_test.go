package sweep_test

import (
	"slices"
	"testing"

	"dustcart/api"
	"dustcart/heap"
	"dustcart/side"
	"dustcart/sweep"
	"dustcart/trace"
)

// layout is a heap of eleven blocks: 1 and 2 used, 3 to 5 of a large object, 6 free, 7 used, 8 of a large object, 9 used without objects, 10 free.
func layout(t *testing.T) world {
	w := newWorld(t, 11, 2)
	for _, addr := range []int{64, 70, 76, 128, 134} {
		w.put(addr, words6)
	}
	w.put(192, api.Shape{Data: 160}) // 162 words
	w.put(448, words32)
	w.put(480, words32)
	w.put(512, words34)
	w.put(576, words2)
	w.kill(576)
	return w
}

// Example 2.
func TestExampleLeft(t *testing.T) {
	w := layout(t)
	w.lead(70, 134)
	m, _, e := trace.Mark(w.h, w.r, 0, 9)
	w.ok("Mark", e)
	s, e := sweep.New(w.h, m)
	if e != api.OK {
		t.Fatalf("New: error %d", e)
	}
	w.left(s, 1, 2, 3, 7, 8, 9)
	w.sweeps(s, 1, 12)
	w.left(s, 2, 3, 7, 8, 9)
	w.refusesBlock(s, 1)
}

// What is left at first does not hang on the marks: all used and head blocks, no free ones and no tails.
func TestLeft(t *testing.T) {
	w := layout(t)
	w.left(w.sweeper(), 1, 2, 3, 7, 8, 9)
	w.left(w.sweeper(w.h.All()...), 1, 2, 3, 7, 8, 9)
	none := newWorld(t, 2, 1)
	s := none.sweeper()
	none.left(s)
	none.finishes(s, 0)
	full := newWorld(t, api.MaxBlocks, 1)
	for block := 1; block < api.MaxBlocks; block++ {
		full.put(64*block, words2)
	}
	full.left(full.sweeper(), blocksFrom(1, api.MaxBlocks-1)...)
}

// A block with no marked object, with some, with all marked, and without objects; large objects, marked and not (P8.4).
func TestBlock(t *testing.T) {
	w := layout(t)
	s := w.sweeper(70, 448, 480, 192)
	w.ok("Pin", w.h.Pin(64))
	w.sweeps(s, 7, 0)
	w.sweeps(s, 1, 12)
	w.sweeps(s, 2, 12)
	w.sweeps(s, 3, 0)
	w.sweeps(s, 8, 34)
	w.sweeps(s, 9, 0)
	w.left(s)
	w.has(70, 192, 448, 480)
	w.states(api.BlockUsed, api.BlockFree, api.BlockHead, api.BlockTail, api.BlockTail, api.BlockFree, api.BlockUsed, api.BlockFree, api.BlockFree, api.BlockFree)
	if w.h.Pinned(64) {
		t.Errorf("what was freed is pinned")
	}
	again := w.sweeper(70, 448)
	w.sweeps(again, 3, 162)
	w.states(api.BlockUsed, api.BlockFree, api.BlockFree, api.BlockFree, api.BlockFree, api.BlockFree, api.BlockUsed)
	w.sweeps(again, 7, 32)
	w.has(70, 448)
}

// Only objects that begin in a block matter, each at its own entry: every object of a block is the one that is marked.
func TestBlockEachMark(t *testing.T) {
	for marked := 64; marked < 128; marked += 2 {
		w := newWorld(t, 4, 1)
		for addr := 62; addr < 130; addr += 2 {
			if addr < 64 || addr >= 128 {
				continue
			}
			w.put(addr, words2)
		}
		w.put(128, words2)
		s := w.sweeper(marked)
		w.sweeps(s, 1, 62)
		w.has(marked, 128)
	}
}

// References to what is freed stay as they are: Clear is for Collect and for whoever makes the marks.
func TestBlockReferences(t *testing.T) {
	w := newWorld(t, 4, 1)
	a := w.put(64, api.Shape{Refs: 1})
	w.refer(a, 0, w.put(128, words2))
	b := w.put(70, api.Shape{Refs: 1, Kind: api.Weak})
	w.refer(b, 0, 128)
	w.lead(128)
	s := w.sweeper(a, b)
	w.finishes(s, 2)
	lead, _ := w.r.Get(slot(0, 0))
	if w.ref(a, 0) != 128 || w.ref(b, 0) != 128 || lead != 128 {
		t.Errorf("references or places are changed")
	}
}

// Numbers of blocks that are not left: free ones, tails, such as there are not, and swept ones.
func TestBlockNotLeft(t *testing.T) {
	w := layout(t)
	s := w.sweeper(70)
	nowhere := append([]int{0, 4, 5, 6, 10, 11, 12, 63, 64, 65, -1, -2, -11}, beyond...)
	w.refusesBlock(s, nowhere...)
	w.sweeps(s, 7, 64)
	w.refusesBlock(s, append(nowhere, 7)...)
	w.sweeps(s, 1, 12)
	w.refusesBlock(s, 1, 7)
	w.finishes(s, 12+162+34)
	w.refusesBlock(s, append(nowhere, 1, 2, 3, 7, 8, 9)...)
}

// A block that is claimed after New is not left, nor is one that was swept, and claimed again.
func TestBlockClaimedMeanwhile(t *testing.T) {
	w := layout(t)
	s := w.sweeper()
	w.put(384, words2)
	w.put(640, words34)
	w.left(s, 1, 2, 3, 7, 8, 9)
	w.refusesBlock(s, 6, 10)
	w.sweeps(s, 2, 12)
	w.put(128, words2)
	w.refusesBlock(s, 2)
	w.finishes(s, 18+162+64+34)
	w.has(128, 384, 640)
}

// A block that was released meanwhile is left, without anything to do.
func TestBlockReleasedMeanwhile(t *testing.T) {
	w := layout(t)
	s := w.sweeper(64, 70, 76)
	for _, block := range []int{1, 3, 8, 9} {
		w.vacate(block)
	}
	w.left(s, 1, 2, 3, 7, 8, 9)
	for _, block := range []int{3, 1, 8, 9} {
		before := w.state()
		w.sweeps(s, block, 0)
		w.unchanged("after Block of a block that was released", before)
		w.refusesBlock(s, block)
	}
	w.left(s, 2, 7)
	w.vacate(7)
	w.finishes(s, 12)
}

// A block that was released and claimed again meanwhile is swept as it is then: used, a head, or a tail, of which no object begins in it.
func TestBlockReleasedAndClaimedMeanwhile(t *testing.T) {
	w := layout(t)
	s := w.sweeper(64, 70, 192)
	for _, block := range []int{1, 2, 3, 7, 8} {
		w.vacate(block)
	}
	w.ok("ClaimLarge", w.h.ClaimLarge(2, 4, 5))
	before := w.state()
	w.sweeps(s, 3, 0)
	w.unchanged("after Block of a tail whose head is without an object", before)
	w.put(64, words4)    // its address is marked still
	w.put(68, words4)    // not marked
	w.put(128, words218) // of the blocks 2 to 5
	w.put(448, words34)  // not marked, now large
	w.put(512, words2)   // not marked, now small
	w.put(514, words4)   // marked by its maker
	w.put(576, words2)   // in a block that was used all the time
	w.born(s, api.OK, 514)
	w.sweeps(s, 1, 4)
	w.sweeps(s, 8, 2)
	w.sweeps(s, 7, 34)
	w.left(s, 2, 9)
	w.finishes(s, 220)
	w.has(64, 514)
	w.states(1, 0, 0, 0, 0, 0, 0, 1, 0, 0)
}

// Objects that are killed, moved, or pinned meanwhile: an object is marked if the entry of its address is 1.
func TestBlockOthersMeanwhile(t *testing.T) {
	w := layout(t)
	s := w.sweeper(64, 70, 128)
	w.kill(70)
	w.ok("Move", w.h.Move(64, 100))
	w.ok("Move", w.h.Move(134, 70))
	w.ok("Pin", w.h.Pin(76))
	w.ok("Retag", w.h.Retag(1, 2))
	w.sweeps(s, 1, 12)
	w.has(70, 128, 192, 448, 480, 512)
	if w.h.Space(1) != 2 {
		t.Errorf("space %d, want 2", w.h.Space(1))
	}
}

// Marks that are changed after New, and the sweeper's own ones, do not matter to each other.
func TestMarksAfterNew(t *testing.T) {
	w := layout(t)
	m := w.marks(70, 128)
	s, e := sweep.New(w.h, m)
	w.ok("New", e)
	m.Fill(0, m.Entries(), 1)
	w.sweeps(s, 1, 12)
	m.Fill(0, m.Entries(), 0)
	w.sweeps(s, 2, 6)
	w.born(s, api.OK, 448)
	if m.Count(1) != 0 {
		t.Errorf("Born has changed the table that New was given")
	}
	same := w.marks(480)
	s, e = sweep.New(w.h, same)
	w.ok("New", e)
	w.born(s, api.OK, 70)
	w.finishes(s, 6+162+32+34)
	w.has(70, 480)
	if !side.Same(same, w.marks(480)) {
		t.Errorf("sweeping has changed the table that New was given")
	}
}

// Entries of words at which there is no object do not matter.
func TestMarksOfNoObject(t *testing.T) {
	w := layout(t)
	s := w.sweeper(0, 66, 68, 72, 130, 254, 258, 448, 450, 514, 702)
	w.finishes(s, 18+12+162+32+34)
	w.has(448)
}

// All blocks one by one, in several orders, by Need, by Finish, and by both, held against all at once (P8.2).
func TestOrders(t *testing.T) {
	d := dice(5)
	for _, leads := range [][]int{{}, {70, 128, 512}, {64, 448}, {192, 134}, {576 - 128, 64, 70, 76, 128, 134, 192, 480, 512}} {
		w := layout(t)
		w.lead(leads...)
		want := w.clone()
		x := want.report()
		for order := range 40 {
			c := w.clone()
			s := c.keptSweeper()
			if freed := c.sweepAll(s, &d, order); freed != x.FreedWords {
				t.Errorf("order %d: %d words were freed, want %d", order, freed, x.FreedWords)
			}
			c.as(want, line("order ", order))
			c.refusesNeed(s, api.ErrNone, 1, 64)
			c.finishes(s, 0)
		}
	}
}

// sweepAll sweeps what is left, in one of many orders: how many words were freed.
func (w world) sweepAll(s *sweep.Sweeper, d *dice, order int) int {
	w.t.Helper()
	used := w.h.Used()
	list := s.Left()
	switch order {
	case 0:
		list = nil
	case 1:
	case 2:
		slices.Reverse(list)
	case 3:
		for len(s.Left()) > 0 {
			if _, e := s.Need(1 + d.next(64)); e != api.OK {
				w.t.Fatalf("Need: error %d", e)
			}
		}
		list = nil
	default:
		for i := range list {
			j := d.next(i + 1)
			list[i], list[j] = list[j], list[i]
		}
		list = list[:len(list)-d.next(2)*d.next(len(list)+1)]
	}
	for _, block := range list {
		words := 0
		for _, addr := range w.h.Objects(block) {
			shape, _ := w.h.Shape(addr)
			words += heap.Words(shape)
		}
		n, e := s.Block(block)
		for _, addr := range w.h.Objects(block) {
			shape, _ := w.h.Shape(addr)
			words -= heap.Words(shape)
		}
		if n != words || e != api.OK {
			w.t.Errorf("Block(%d): %d, error %d, want %d", block, n, e, words)
		}
	}
	now := w.h.Used()
	if n, e := s.Finish(); n != now-w.h.Used() || e != api.OK {
		w.t.Errorf("Finish: %d, error %d, want %d", n, e, now-w.h.Used())
	}
	w.left(s)
	return used - w.h.Used()
}
