package sweep_test

import (
	"testing"

	"dustcart/api"
	"dustcart/heap"
)

// Example 1.
func TestExampleCollect(t *testing.T) {
	w := newWorld(t, 4, 1)
	a, b := w.put(64, words4), w.put(68, words6)
	w.lead(b)
	if x := w.report(); x.Kept != 1 || x.Freed != 1 {
		t.Errorf("Collect: %+v", x)
	}
	if w.h.Has(a) || !w.h.Has(b) {
		t.Errorf("there are %v", w.h.All())
	}
	w.set(slot(0, 0), 0)
	if x := w.report(); x.Kept != 0 || x.Freed != 1 || w.h.State(1) != api.BlockFree {
		t.Errorf("Collect without roots: %+v, the state of block 1 is %d", x, w.h.State(1))
	}
}

// No object, no place that is not empty.
func TestCollectNothing(t *testing.T) {
	for _, blocks := range []int{2, 5, api.MaxBlocks} {
		for mutators := 1; mutators <= api.MaxMutators; mutators++ {
			w := newWorld(t, blocks, mutators)
			before := w.state()
			w.collects(api.Report{})
			w.unchanged("after Collect of nothing", before)
		}
	}
}

// Blocks that were claimed, and are without objects, are released, too.
func TestCollectEmptyBlocks(t *testing.T) {
	w := newWorld(t, 9, 1)
	w.ok("Claim", w.h.Claim(1, 0))
	w.ok("ClaimLarge", w.h.ClaimLarge(2, 1, 1))
	w.ok("ClaimLarge", w.h.ClaimLarge(3, 3, 2))
	w.put(64*7, words2)
	w.kill(64 * 7)
	w.ok("ClaimLarge", w.h.ClaimLarge(8, 1, 7))
	w.collects(api.Report{})
	w.states(0, 0, 0, 0, 0, 0, 0, 0)
}

// Blocks with no kept object, with some, and with all kept; objects stay where they are, and blocks in their spaces.
func TestCollectBlocks(t *testing.T) {
	w := newWorld(t, 6, 1)
	for _, addr := range []int{64, 70, 76, 128, 134, 140, 146, 192, 198, 320, 326} {
		w.put(addr, words6)
	}
	w.ok("Retag", w.h.Retag(2, 3))
	w.ok("Retag", w.h.Retag(3, 0))
	w.lead(134, 146, 192, 198, 326)
	data := 0
	for _, addr := range w.h.All() {
		for i := range 4 {
			data++
			w.ok("SetData", w.h.SetData(addr, i, data))
		}
	}
	kept := w.blockState(3)
	w.collects(api.Report{Kept: 5, KeptWords: 30, Freed: 6, FreedWords: 36, Scanned: 5})
	w.has(134, 146, 192, 198, 326)
	w.states(api.BlockFree, api.BlockUsed, api.BlockUsed, api.BlockFree, api.BlockUsed)
	for block, space := range []int{0, 0, 3, 0, 0, 5} {
		if got := w.h.Space(block); got != space {
			t.Errorf("block %d: space %d, want %d", block, got, space)
		}
	}
	if got := w.blockState(3); line(got) != line(kept) {
		t.Errorf("a block of which all objects are kept is changed")
	}
	for i := range 4 {
		if v, _ := w.h.Data(134, i); v != 17+i {
			t.Errorf("data word %d of a kept object: %d, want %d", i, v, 17+i)
		}
		if v, _ := w.h.Word(130 + i); v != 0 {
			t.Errorf("word %d is of no object, but %d", 130+i, v)
		}
	}
	if ident, _ := w.h.Ident(146); ident != 7 {
		t.Errorf("identity %d, want 7", ident)
	}
}

// Without roots nothing is kept, and all blocks are free.
func TestCollectWithoutRoots(t *testing.T) {
	w := newWorld(t, 8, 3)
	w.put(64, words32)
	w.put(96, words32)
	w.put(190, words2)
	w.put(192, words102)
	w.put(384, api.Shape{Refs: 1})
	w.refer(384, 0, 384)
	w.collects(api.Report{Freed: 5, FreedWords: 172})
	w.has()
	w.states(0, 0, 0, 0, 0, 0, 0)
}

// Large objects of several sizes, each one kept, and not.
func TestCollectLarge(t *testing.T) {
	for _, s := range []api.Shape{words34, {Data: 62}, {Data: 63}, words102, {Data: 126}, {Data: 127}, {Data: 190}, {Data: 191}, words218} {
		n := heap.Words(s)
		blocks := (n + 63) / 64
		w := newWorld(t, 2*blocks+3, 1)
		kept, freed, last := 64, 64*(1+blocks), 64*(1+2*blocks)
		w.put(kept, s)
		w.put(freed, s)
		w.put(last, words2)
		w.lead(last, kept)
		before := w.blockState(w.allBut(blocksFrom(1+blocks, blocks)...)...)
		w.collects(api.Report{Kept: 2, KeptWords: n + 2, Freed: 1, FreedWords: n, Scanned: 2})
		w.has(kept, last)
		if got := w.blockState(w.allBut(blocksFrom(1+blocks, blocks)...)...); line(got) != line(before) {
			t.Errorf("%d words: other blocks are changed", n)
		}
		for _, block := range blocksFrom(1+blocks, blocks) {
			if state := w.h.State(block); state != api.BlockFree {
				t.Errorf("%d words: block %d has the state %d", n, block, state)
			}
		}
	}
}

func blocksFrom(first, n int) []int {
	var list []int
	for i := range n {
		list = append(list, first+i)
	}
	return list
}

// Objects are kept by any place: slots of any mutator, globals, the queue; and by references, from block to block.
func TestCollectPlaces(t *testing.T) {
	for _, p := range []api.Place{slot(0, 0), slot(0, 15), slot(3, 0), slot(3, 15), global(0), global(15)} {
		w := newWorld(t, 5, 4)
		w.set(p, w.put(128, words4))
		w.put(132, words4)
		w.collects(api.Report{Kept: 1, KeptWords: 4, Freed: 1, FreedWords: 4, Scanned: 1})
		w.has(128)
	}
	w := newWorld(t, 5, 1)
	chain := []int{w.put(192, api.Shape{Refs: 2}), w.put(64, api.Shape{Refs: 2}), w.put(256, words6), w.put(128, api.Shape{Refs: 3})}
	w.refer(chain[0], 1, chain[1])
	w.refer(chain[1], 0, chain[0])
	w.refer(chain[1], 1, chain[2])
	w.refer(chain[3], 0, chain[0])
	w.refer(chain[3], 2, chain[2])
	w.ok("Push", w.r.Push(chain[0]))
	w.collects(api.Report{Kept: 3, KeptWords: 14, Freed: 1, FreedWords: 6, Scanned: 3})
	w.has(64, 192, 256)
	if w.ref(192, 1) != 64 || w.ref(64, 0) != 192 || w.ref(64, 1) != 256 {
		t.Errorf("references of kept objects are changed")
	}
	if queue := w.r.Queue(); line(queue) != line([]int{192}) {
		t.Errorf("the queue is %v", queue)
	}
}

// Objects of all four kinds, some of whose references are cleared.
func TestCollectKinds(t *testing.T) {
	w := newWorld(t, 8, 1)
	dead, live := w.put(448, words2), w.put(450, words2)
	refs := func(kind, addr int, to ...int) int {
		w.put(addr, api.Shape{Refs: 4, Kind: kind})
		for i, ref := range to {
			w.refer(addr, i, ref)
		}
		return addr
	}
	weakDead := refs(api.Weak, 64, dead, live, 0, live)
	weakLive := refs(api.Weak, 70, live, live)
	weakNone := refs(api.Weak, 128, 0, live)
	keyDead := refs(api.Ephemeron, 134, dead, live, live, 64)
	keyNone := refs(api.Ephemeron, 192, 0, live, 70)
	keyLive := refs(api.Ephemeron, 198, live)
	empty := refs(api.Ephemeron, 204, 0, 0, 64)
	valueOnly := w.put(256, api.Shape{Refs: 1}) // kept as the value of a key that is kept
	w.refer(keyLive, 1, valueOnly)
	plain := refs(api.Plain, 320, live, 64, 70, 128)
	special := refs(api.Special, 326, 134, 192, 198, 204)
	freed := refs(api.Weak, 384, dead, plain)
	w.lead(plain, special)
	w.collects(api.Report{Kept: 11, KeptWords: 60, Freed: 2, FreedWords: 8, Scanned: 11, Cleared: 3})
	if w.h.Has(dead) || w.h.Has(freed) {
		t.Errorf("there are %v", w.h.All())
	}
	for _, x := range []struct {
		addr int
		want []int
	}{
		{weakDead, []int{0, live, 0, live}},
		{weakLive, []int{live, live, 0, 0}},
		{weakNone, []int{0, live, 0, 0}},
		{keyDead, []int{0, 0, live, 64}},
		{keyNone, []int{0, 0, 70, 0}},
		{keyLive, []int{live, valueOnly, 0, 0}},
		{empty, []int{0, 0, 64, 0}},
		{plain, []int{live, 64, 70, 128}},
		{special, []int{134, 192, 198, 204}},
	} {
		for i, want := range x.want {
			if got := w.ref(x.addr, i); got != want {
				t.Errorf("object %d: reference %d is %d, want %d", x.addr, i, got, want)
			}
		}
	}
}

// A value that leads to its own key keeps neither; one whose Ephemeron is not kept is not kept, either.
func TestCollectEphemerons(t *testing.T) {
	w := newWorld(t, 4, 1)
	pair, key, value := w.put(64, api.Shape{Refs: 2, Kind: api.Ephemeron}), w.put(70, words2), w.put(128, api.Shape{Refs: 1})
	w.refer(pair, 0, key)
	w.refer(pair, 1, value)
	w.refer(value, 0, key)
	w.lead(pair)
	loose := w.clone()
	w.collects(api.Report{Kept: 1, KeptWords: 4, Freed: 2, FreedWords: 6, Scanned: 1, Cleared: 1})
	w.has(pair)
	loose.lead(key)
	loose.collects(api.Report{Kept: 1, KeptWords: 2, Freed: 2, FreedWords: 8, Scanned: 1})
	loose.has(key)
}

// Pinned objects are freed like others; kept ones stay pinned. Forwards stay.
func TestCollectPinnedAndForwards(t *testing.T) {
	w := newWorld(t, 4, 1)
	kept, dead, other := w.put(64, words4), w.put(68, words4), w.put(72, words4)
	w.ok("Pin", w.h.Pin(kept))
	w.ok("Pin", w.h.Pin(dead))
	w.ok("Move", w.h.Move(other, 100))
	w.lead(kept, 100)
	w.collects(api.Report{Kept: 2, KeptWords: 8, Freed: 1, FreedWords: 4, Scanned: 2})
	if !w.h.Pinned(kept) || w.h.Pinned(dead) || w.h.Pinned(100) {
		t.Errorf("what is pinned is changed")
	}
	w.set(slot(0, 1), 0)
	w.report()
	if to, e := w.h.Forward(72); to != 100 || e != api.OK {
		t.Errorf("Forward: %d, error %d", to, e)
	}
}

// A heap without room, of which all objects are kept; then every second one; then none.
func TestCollectFullHeap(t *testing.T) {
	w := newWorld(t, api.MaxBlocks, 1)
	last := 0
	for addr := 64; addr < 64*api.MaxBlocks; addr += 4 {
		w.put(addr, api.Shape{Refs: 2})
		w.refer(addr, 0, last)
		last = addr
	}
	w.lead(last)
	objects := 63 * 16
	w.collects(api.Report{Kept: objects, KeptWords: 4 * objects, Scanned: objects})
	w.refer(68, 0, 0)
	for addr := 72; addr <= last; addr += 4 {
		w.refer(addr, 0, addr-8)
	}
	w.collects(api.Report{Kept: objects / 2, KeptWords: 2 * objects, Freed: objects / 2, FreedWords: 2 * objects, Scanned: objects / 2})
	w.set(slot(0, 0), 0)
	w.collects(api.Report{Freed: objects / 2, FreedWords: 2 * objects})
	w.has()
}
