package copying_test

import (
	"slices"
	"testing"

	"dustcart/api"
	"dustcart/copying"
)

// tree makes d and c, b that leads to d, and a that leads to b and c, so that addresses do not rise as they are found: the identities are 1 to 4.
func tree(t *testing.T, blocks int) (w world, a, b, c, d int) {
	t.Helper()
	w = newWorld(t, blocks, 1)
	d = w.put(64, words2)
	c = w.put(66, words6)
	b = w.node(72, api.Plain, d)
	a = w.node(76, api.Plain, b, c)
	w.lead(a)
	return w, a, b, c, d
}

// Example 1.
func TestExampleOrders(t *testing.T) {
	for _, order := range []int{oldest, newest} {
		w, a, b, c, d := tree(t, 3)
		w.room(order, 1)
		w.collects(3, order, api.Report{Kept: 4, KeptWords: 16, Moved: 4, MovedWords: 16, Scanned: 4},
			api.Move{From: a, To: 128}, api.Move{From: b, To: 132}, api.Move{From: c, To: 136}, api.Move{From: d, To: 142})
		w.has(128, 132, 136, 142)
		w.at(4, 128, 132, 136)
		w.at(3, 132, 142)
		w.leads(slot(0, 0), 128)
		w.states(api.BlockFree, api.BlockUsed)
		w.space(3, 2)
		w.space(0, 1)
		w.again(3)
	}
}

// Example 2.
func TestExamplePinned(t *testing.T) {
	w := newWorld(t, 4, 1)
	pinned, other := w.put(64, words4), w.put(68, words4)
	w.lead(pinned, other)
	w.pin(pinned)
	w.collects(0, oldest, api.Report{Kept: 2, KeptWords: 8, Moved: 1, MovedWords: 4, Scanned: 2}, api.Move{From: other, To: 128})
	w.has(64, 128)
	w.states(api.BlockUsed, api.BlockUsed, api.BlockFree)
	if !w.h.Pinned(64) || w.h.Pinned(128) {
		t.Errorf("what is pinned is changed")
	}
	w.again(0)
}

// What the orders differ by: if c leads to something, too; and from several places.
func TestOrdersDiffer(t *testing.T) {
	for order, want := range [][]api.Move{
		{{From: 76, To: 128}, {From: 72, To: 132}, {From: 66, To: 136}, {From: 64, To: 142}, {From: 90, To: 144}},
		{{From: 76, To: 128}, {From: 72, To: 132}, {From: 66, To: 136}, {From: 90, To: 142}, {From: 64, To: 146}},
	} {
		w, _, _, c, _ := tree(t, 3)
		w.h.Kill(c)
		e := w.put(90, words4)
		c = w.put(c, api.Shape{Refs: 1, Data: 3})
		w.refs(c, e)
		w.refs(76, 72, c)
		w.collects(1, order, api.Report{Kept: 5, KeptWords: 20, Moved: 5, MovedWords: 20, Scanned: 5}, want...)
	}
	for order, want := range [][]api.Move{
		{{From: 64, To: 128}, {From: 68, To: 132}, {From: 72, To: 136}, {From: 74, To: 138}, {From: 76, To: 140}},
		{{From: 64, To: 128}, {From: 68, To: 132}, {From: 76, To: 136}, {From: 72, To: 138}, {From: 74, To: 140}},
	} {
		w := newWorld(t, 3, 1)
		x1, x2, y1 := w.put(72, words2), w.put(74, words2), w.put(76, words2)
		x, y := w.node(64, api.Plain, x1, x2), w.node(68, api.Plain, y1)
		w.lead(x, y)
		w.collects(1, order, api.Report{Kept: 5, KeptWords: 14, Moved: 5, MovedWords: 14, Scanned: 5}, want...)
	}
}

// A longer graph: what is added while an object is scanned is behind, or ahead of, what was added before.
func TestOrdersOfManySteps(t *testing.T) {
	// An object i of seven leads to 2i + 1 and 2i + 2; objects 3 and 4 lead to objects that were found before, too.
	for order, want := range [][]int{{0, 1, 2, 3, 4, 5, 6}, {0, 1, 2, 5, 6, 3, 4}} {
		w := newWorld(t, 4, 1)
		addr := func(i int) int { return 64 + 8*(6-i) }
		for i := range 7 {
			w.put(addr(i), api.Shape{Refs: 3, Data: 3})
		}
		for i := range 3 {
			w.refs(addr(i), addr(2*i+1), addr(2*i+2), addr(i))
		}
		w.refs(addr(3), addr(0), addr(5))
		w.refs(addr(4), addr(1), addr(4), addr(6))
		w.lead(addr(0))
		var moves []api.Move
		for place, i := range want {
			moves = append(moves, api.Move{From: addr(i), To: 128 + 8*place})
		}
		w.collects(0, order, api.Report{Kept: 7, KeptWords: 56, Moved: 7, MovedWords: 56, Scanned: 7}, moves...)
		w.again(0)
	}
}

// No object, no place that is not empty.
func TestCollectNothing(t *testing.T) {
	for _, blocks := range []int{2, 5, api.MaxBlocks} {
		for mutators := 1; mutators <= api.MaxMutators; mutators++ {
			for _, order := range []int{oldest, newest} {
				w := newWorld(t, blocks, mutators)
				before := w.state()
				w.room(order, 0)
				w.collects(7, order, api.Report{})
				w.unchanged("after Collect of nothing", before)
			}
		}
	}
}

// Without roots nothing is kept, and all blocks are free.
func TestCollectWithoutRoots(t *testing.T) {
	for _, order := range []int{oldest, newest} {
		w := newWorld(t, 9, 3)
		w.put(64, words32)
		w.put(96, words32)
		w.put(190, words2)
		w.put(192, words218)
		w.put(448, words2)
		w.node(512, api.Plain, 448)
		w.refs(512, 512)
		w.pin(448, 192)
		w.room(order, 0)
		w.collects(2, order, api.Report{Freed: 6, FreedWords: 290})
		w.has()
		w.states(0, 0, 0, 0, 0, 0, 0, 0)
		w.space(0, 1, 2, 3, 7, 8)
		w.again(2)
	}
}

// Pinned and large objects, kept and not: they lead to others, and others to them, and they are scanned in their turn.
func TestFixed(t *testing.T) {
	w := newWorld(t, 16, 1)
	x, y, z := w.put(64, words4), w.put(68, words6), w.put(74, words2)
	pinned := w.node(128, api.Plain, x, 0, 128) // 6 words
	large := w.put(192, api.Shape{Refs: 2, Data: 100})
	w.refs(large, y, pinned)
	from := w.node(320, api.Plain, large, z, 0) // 6 words
	w.pin(pinned, z)
	dead, deadLarge := w.put(134, words2), w.put(384, words34)
	w.pin(dead)
	w.lead(from)
	w.collects(1, oldest, api.Report{Kept: 6, KeptWords: 128, Freed: 2, FreedWords: 36, Moved: 3, MovedWords: 16, Scanned: 6},
		api.Move{From: from, To: 448}, api.Move{From: y, To: 454}, api.Move{From: x, To: 460})
	w.has(74, 128, 192, 448, 454, 460)
	w.at(6, 448, 192, 74)
	w.at(5, 192, 454, 128)
	w.at(4, 128, 460, 0, 128)
	w.states(api.BlockUsed, api.BlockUsed, api.BlockHead, api.BlockTail, api.BlockFree, api.BlockFree, api.BlockUsed)
	w.space(oldSpace, 1, 2, 3, 4)
	w.space(1, 7)
	if w.h.Has(dead) || w.h.Has(deadLarge) {
		t.Errorf("there are %v", w.h.All())
	}
	w.again(1)
}

// If all that is kept is fixed, no block is needed.
func TestOnlyFixed(t *testing.T) {
	w := newWorld(t, 7, 1) // none of whose blocks is free then
	w.lead(w.put(64, words4), w.put(128, words34), w.put(192, words218))
	w.pin(64)
	w.put(68, words32)
	before := w.clone()
	before.ok("Kill", before.h.Kill(68))
	w.room(newest, 0)
	w.collects(0, newest, api.Report{Kept: 3, KeptWords: 256, Freed: 1, FreedWords: 32, Scanned: 3})
	w.as(before, "after Collect of fixed objects")
	w.again(0)
}

// Objects of 32 words are moved, such of 34 are not; a pinned one of 34 is fixed, too.
func TestLargeOnes(t *testing.T) {
	w := newWorld(t, 8, 1)
	w.lead(w.put(64, words32), w.put(128, words34), w.put(192, words34))
	w.pin(192)
	w.collects(0, oldest, api.Report{Kept: 3, KeptWords: 100, Moved: 1, MovedWords: 32, Scanned: 3}, api.Move{From: 64, To: 256})
	w.has(128, 192, 256)
	w.again(0)
}

// Blocks that are not free are in new blocks' way: with fixed objects, with such as are not kept, and without any.
func TestBlocksInTheWay(t *testing.T) {
	w := newWorld(t, 14, 1)
	for _, addr := range []int{64, 96, 192, 448, 480} {
		w.put(addr, words32)
	}
	large := w.put(256, api.Shape{Data: 100}) // blocks 4 and 5
	w.put(512, words2)                        // block 8, not kept
	w.pin(w.put(576, words2))                 // block 9, neither
	w.claim(10)
	w.lead(448, 480, 64, 96, 192, large)
	w.room(oldest, 3)
	w.collects(4, oldest, api.Report{Kept: 6, KeptWords: 262, Freed: 2, FreedWords: 4, Moved: 5, MovedWords: 160, Scanned: 6},
		api.Move{From: 448, To: 128}, api.Move{From: 480, To: 160}, api.Move{From: 64, To: 384}, api.Move{From: 96, To: 416}, api.Move{From: 192, To: 704})
	w.states(api.BlockFree, api.BlockUsed, api.BlockFree, api.BlockHead, api.BlockTail, api.BlockUsed, api.BlockFree, api.BlockFree, api.BlockFree, api.BlockFree, api.BlockUsed, api.BlockFree, api.BlockFree)
	w.space(4, 2, 6, 11)
	w.again(4)
}

// An object that just fills what is left of a new block, and one that is a word longer, with one behind it, and with none.
func TestJustFills(t *testing.T) {
	for _, x := range []struct {
		data, words, need, to, next int
	}{
		{19, 22, 1, 234, 256},
		{20, 22, 1, 234, 256},
		{21, 24, 2, 256, 280},
		{22, 24, 2, 256, 280},
	} {
		w := newWorld(t, 6, 1)
		w.lead(w.put(64, words20), w.put(84, words22), w.put(128, api.Shape{Data: x.data}))
		moves := []api.Move{{From: 64, To: 192}, {From: 84, To: 212}, {From: 128, To: x.to}}
		alone := w.clone()
		w.set(slot(0, 3), w.put(160, words2))
		for _, order := range []int{oldest, newest} {
			alone.room(order, x.need)
			w.room(order, 2)
		}
		n := 42 + x.words
		alone.collects(0, oldest, api.Report{Kept: 3, KeptWords: n, Moved: 3, MovedWords: n, Scanned: 3}, moves...)
		w.collects(0, newest, api.Report{Kept: 4, KeptWords: n + 2, Moved: 4, MovedWords: n + 2, Scanned: 4}, append(moves, api.Move{From: 160, To: x.next})...)
		w.again(0)
	}
}

// Two objects of half a block fill it; words that are left behind in a new block are not used later.
func TestNoGoingBack(t *testing.T) {
	w := newWorld(t, 9, 1)
	w.lead(w.put(64, words32), w.put(96, words32), w.put(128, words20), w.put(148, words32), w.put(192, words32), w.put(224, words2), w.put(256, words6))
	w.room(oldest, 3)
	w.collects(2, oldest, api.Report{Kept: 7, KeptWords: 156, Moved: 7, MovedWords: 156, Scanned: 7},
		api.Move{From: 64, To: 320}, api.Move{From: 96, To: 352}, api.Move{From: 128, To: 384}, api.Move{From: 148, To: 404},
		api.Move{From: 192, To: 448}, api.Move{From: 224, To: 480}, api.Move{From: 256, To: 482})
	w.states(0, 0, 0, 0, 1, 1, 1, 0)
	w.again(2)
}

// An address in several places and references: the object is moved once, and all lead to it.
func TestSameAddress(t *testing.T) {
	w := newWorld(t, 4, 4)
	x := w.put(64, words4)
	y := w.node(70, api.Special, x, x, 0, x)
	w.refs(y, x, x, y, x)
	places := []api.Place{slot(0, 0), slot(0, 15), slot(1, 3), slot(3, 15), global(0), global(15), queued(0), queued(2), queued(3)}
	w.push(x, y, x, x)
	for _, p := range places {
		w.set(p, x)
	}
	w.set(slot(2, 2), y)
	w.collects(6, newest, api.Report{Kept: 2, KeptWords: 10, Moved: 2, MovedWords: 10, Scanned: 2}, api.Move{From: x, To: 128}, api.Move{From: y, To: 132})
	for _, p := range places {
		w.leads(p, 128)
	}
	w.leads(slot(2, 2), 132)
	w.leads(queued(1), 132)
	w.leads(slot(0, 1), 0)
	w.leads(global(7), 0)
	w.at(2, 132, 128, 128, 132, 128)
	if n := len(w.r.Places()); n != len(places)+2 {
		t.Errorf("%d places are not empty", n)
	}
}

// What the places hold is moved in their order: the slots of each mutator, globals, the queue.
func TestPlacesInOrder(t *testing.T) {
	for _, order := range []int{oldest, newest} {
		w := newWorld(t, 4, 3)
		for addr := 64; addr < 64+9*4; addr += 4 {
			w.put(addr, words4)
		}
		w.push(64, 68)
		w.set(global(15), 72)
		w.set(global(1), 76)
		w.set(slot(2, 15), 80)
		w.set(slot(1, 9), 84)
		w.set(slot(1, 2), 88)
		w.set(slot(0, 15), 64)
		w.set(slot(0, 0), 92)
		w.collects(0, order, api.Report{Kept: 8, KeptWords: 32, Freed: 1, FreedWords: 4, Moved: 8, MovedWords: 32, Scanned: 8},
			api.Move{From: 92, To: 128}, api.Move{From: 64, To: 132}, api.Move{From: 88, To: 136}, api.Move{From: 84, To: 140},
			api.Move{From: 80, To: 144}, api.Move{From: 76, To: 148}, api.Move{From: 72, To: 152}, api.Move{From: 68, To: 156})
		if queue := w.r.Queue(); !slices.Equal(queue, []int{132, 156}) {
			t.Errorf("the queue is %v", queue)
		}
	}
}

// Old blocks, and head blocks with their tails, that have no object before or afterwards, are released.
func TestEmptyBlocks(t *testing.T) {
	w := newWorld(t, 20, 1)
	w.claim(1, 2)
	w.ok("ClaimLarge", w.h.ClaimLarge(3, 1, 1))
	w.ok("ClaimLarge", w.h.ClaimLarge(4, 3, 2))
	w.put(448, words2)
	w.ok("Kill", w.h.Kill(448))
	w.put(512, words218) // blocks 8 to 11, not kept
	kept := w.put(768, words4)
	w.put(780, words6)
	w.pin(w.put(832, words2))      // block 13: pinned, and not kept
	stays := w.put(900, words2)    // block 14: pinned, and kept
	w.put(960, api.Shape{Refs: 9}) // block 15: not kept
	w.pin(stays)
	w.lead(kept, stays)
	w.collects(7, oldest, api.Report{Kept: 2, KeptWords: 6, Freed: 4, FreedWords: 238, Moved: 1, MovedWords: 4, Scanned: 2}, api.Move{From: kept, To: 1024})
	w.states(0, 0, 0, 0, 0, 0, 0, 0, 0, 0, 0, 0, 0, 1, 0, 1, 0, 0, 0)
	w.space(0, 1, 2, 3, 4, 5, 6, 7, 8, 9, 10, 11, 12, 13, 15, 17, 18, 19)
	w.space(oldSpace, 14)
	w.space(7, 16)
	w.again(7)
}

// Every space; fixed objects' blocks keep theirs.
func TestSpaces(t *testing.T) {
	for space := range api.MaxSpaces {
		w := newWorld(t, 8, 1)
		w.lead(w.put(64, words32), w.put(96, words32), w.put(128, words32), w.put(160, words2), w.put(192, words34))
		w.pin(160)
		w.collects(space, oldest, api.Report{Kept: 5, KeptWords: 132, Moved: 3, MovedWords: 96, Scanned: 5},
			api.Move{From: 64, To: 256}, api.Move{From: 96, To: 288}, api.Move{From: 128, To: 320})
		w.space(0, 1, 6, 7)
		w.space(oldSpace, 2, 3)
		w.space(space, 4, 5)
		w.again(space)
	}
}

// A second Collect moves all once more, back to the blocks that became free; then the other order.
func TestAgain(t *testing.T) {
	w, a, b, c, d := tree(t, 3)
	x := api.Report{Kept: 4, KeptWords: 16, Moved: 4, MovedWords: 16, Scanned: 4}
	w.collects(1, oldest, x, api.Move{From: a, To: 128}, api.Move{From: b, To: 132}, api.Move{From: c, To: 136}, api.Move{From: d, To: 142})
	w.collects(2, oldest, x, api.Move{From: 128, To: 64}, api.Move{From: 132, To: 68}, api.Move{From: 136, To: 72}, api.Move{From: 142, To: 78})
	w.has(64, 68, 72, 78)
	w.space(2, 1)
	w.states(1, 0)
	w.collects(1, newest, x, api.Move{From: 64, To: 128}, api.Move{From: 68, To: 132}, api.Move{From: 72, To: 136}, api.Move{From: 78, To: 142})
	w.at(4, 128, 132, 136)
	w.at(3, 132, 142)
}

// Forwards of all moves are noted, and those of before stay, unless they are from the same address.
func TestForwards(t *testing.T) {
	w := newWorld(t, 8, 1)
	x, y, fixed := w.put(64, words4), w.put(68, words6), w.put(90, words2)
	dead := w.put(128, words2)
	w.ok("Move", w.h.Move(dead, 130))
	w.ok("Move", w.h.Move(x, 100))
	w.ok("Move", w.h.Move(100, x)) // a forward from 64, and one from 100
	w.pin(fixed)
	w.lead(x, y, fixed)
	w.collect(0, oldest)
	forwards := func(want map[int]int) {
		t.Helper()
		for addr := range 64 * 8 {
			to, e := w.h.Forward(addr)
			if to != want[addr] || (e == api.OK) != (want[addr] != 0) {
				t.Errorf("Forward(%d): %d, error %d, want %d", addr, to, e, want[addr])
			}
		}
	}
	forwards(map[int]int{64: 192, 68: 196, 128: 130, 100: 64})
	w.collect(0, oldest)
	forwards(map[int]int{64: 192, 68: 196, 128: 130, 100: 64, 192: 128, 196: 132}) // block 1 has the fixed one, block 2 is free
	if n := w.h.Forget(); n != 6 {
		t.Errorf("%d forwards", n)
	}
}

// Identities, shapes and data words stay, whatever the address is; no object is placed.
func TestDataWords(t *testing.T) {
	w := newWorld(t, 8, 1)
	for i := range 12 {
		addr := w.put(64+64*(i/4)+16*(i%4), api.Shape{Refs: i % 3, Data: 10, Kind: api.Special * (i % 2)})
		for j := range 10 {
			w.ok("SetData", w.h.SetData(addr, j, -1000*i-64*j)) // some of them look like addresses
		}
		if i%3 > 0 {
			w.refs(addr, 64)
		}
		w.set(slot(0, i), addr)
	}
	w.ok("SetData", w.h.SetData(64, 3, 80))
	want := map[int][]int{}
	for ident := 1; ident <= 12; ident++ {
		addr, _ := w.h.At(ident)
		want[ident] = w.words(addr)
	}
	w.collect(0, newest)
	for ident := 1; ident <= 12; ident++ {
		addr, _ := w.h.At(ident)
		if got := w.words(addr); !slices.Equal(got, want[ident]) || addr < 256 {
			t.Errorf("object %d at %d: %v, want %v", ident, addr, got, want[ident])
		}
		p := slot(0, ident-1)
		w.leads(p, addr)
	}
	for addr := 64; addr < 256; addr++ {
		if v, _ := w.h.Word(addr); v != 0 {
			t.Errorf("word %d is of no object, but %d", addr, v)
		}
	}
}

// words are the identity, the shape and the data words of an object.
func (w world) words(addr int) []int {
	w.t.Helper()
	s := w.shape(addr)
	list := []int{w.ident(addr), s.Refs, s.Data, s.Kind}
	for i := range s.Data {
		v, e := w.h.Data(addr, i)
		w.ok("Data", e)
		list = append(list, v)
	}
	return list
}

// R5 and R6: results are new memory, and the same on a heap and its clone.
func TestResultsAreNew(t *testing.T) {
	w, _, _, _, _ := tree(t, 4)
	c := w.clone()
	x, moves, _ := copying.Collect(w.h, w.r, 2, oldest)
	kept := slices.Clone(moves)
	y, other, _ := copying.Collect(c.h, c.r, 2, oldest)
	if x != y || !slices.Equal(moves, other) {
		t.Errorf("Collect of a clone: %+v, %v, want %+v, %v", y, other, x, moves)
	}
	w.as(c, "after Collect of a clone")
	clear(moves)
	w.as(c, "after a change of a result")
	if !slices.Equal(other, kept) {
		t.Errorf("two results share memory")
	}
	_, again, _ := copying.Collect(w.h, w.r, 2, oldest)
	if len(again) != 4 || again[0] != (api.Move{From: 128, To: 64}) {
		t.Errorf("after a change of a result: %v", again)
	}
}

// A list through half of the greatest heap, which comes and goes.
func TestLongList(t *testing.T) {
	for _, order := range []int{oldest, newest} {
		w := newWorld(t, api.MaxBlocks, 1)
		last := 0
		for addr := 64; addr < 64*32; addr += 4 {
			w.put(addr, api.Shape{Refs: 2})
			w.refs(addr, last)
			last = addr
		}
		w.lead(last)
		objects := 31 * 16
		x := api.Report{Kept: objects, KeptWords: 4 * objects, Moved: objects, MovedWords: 4 * objects, Scanned: objects}
		for _, to := range []int{2048, 64} {
			w.room(order, 31)
			got, moves := w.collect(0, order)
			if got != x || moves[0] != (api.Move{From: last, To: to}) {
				t.Errorf("Collect: %+v, %v is moved first", got, moves[0])
			}
			last = to
		}
		w.refs(64, 0)
		w.collects(0, order, api.Report{Kept: 1, KeptWords: 4, Freed: objects - 1, FreedWords: 4 * (objects - 1), Moved: 1, MovedWords: 4, Scanned: 1}, api.Move{From: 64, To: 2048})
		w.set(slot(0, 0), 0)
		w.collects(0, order, api.Report{Freed: 1, FreedWords: 4})
		if w.free() != 63 {
			t.Errorf("%d blocks are free", w.free())
		}
	}
}
