package heap_test

import (
	"slices"
	"testing"

	"dustcart/api"
	"dustcart/heap"
)

func expectNumber(t *testing.T, what string, got int, e api.Errno, want int) {
	t.Helper()
	if got != want || e != api.OK {
		t.Errorf("%s = %d, error %d, want %d", what, got, e, want)
	}
}

func expectError(t *testing.T, what string, got, want api.Errno) {
	t.Helper()
	if got != want {
		t.Errorf("%s: error %d, want %d", what, got, want)
	}
}

func expectGaps(t *testing.T, h *heap.Heap, block int, want ...api.Run) {
	t.Helper()
	if got := h.Gaps(block); !slices.Equal(got, want) {
		t.Errorf("Gaps(%d) = %v, want %v", block, got, want)
	}
}

// The chapter's three examples, one after the other on one heap.
func TestExamples(t *testing.T) {
	h := newHeap(t, 4)
	expectError(t, "Claim(1, 0)", h.Claim(1, 0), api.OK)
	n, e := h.Place(64, api.Shape{Refs: 1, Data: 2})
	expectNumber(t, "Place(64, {1 2 0})", n, e, 1)
	expectGaps(t, h, 1, api.Run{Start: 70, Size: 58})
	n, e = h.Word(65)
	expectNumber(t, "Word(65)", n, e, 33)

	n, e = h.Place(70, api.Shape{})
	expectNumber(t, "Place(70, {0 0 0})", n, e, 2)
	expectError(t, "Move(70, 100)", h.Move(70, 100), api.OK)
	n, e = h.Forward(70)
	expectNumber(t, "Forward(70)", n, e, 100)
	n, e = h.At(2)
	expectNumber(t, "At(2)", n, e, 100)
	expectError(t, "Move(64, 66)", h.Move(64, 66), api.OK)
	expectGaps(t, h, 1, api.Run{Start: 64, Size: 2}, api.Run{Start: 72, Size: 28}, api.Run{Start: 102, Size: 26})

	expectError(t, "ClaimLarge(2, 2, 1)", h.ClaimLarge(2, 2, 1), api.OK)
	n, e = h.Place(128, api.Shape{Data: 100})
	expectNumber(t, "Place(128, {0 100 0})", n, e, 3)
	if n := heap.Words(api.Shape{Data: 100}); n != 102 {
		t.Errorf("Words({0 100 0}) = %d", n)
	}
	expectError(t, "Kill(128)", h.Kill(128), api.OK)
	expectError(t, "Release(3)", h.Release(3), api.ErrState)
	expectError(t, "Release(2)", h.Release(2), api.OK)
}

func TestNew(t *testing.T) {
	for blocks := 2; blocks <= api.MaxBlocks; blocks++ {
		b := newBoth(t, blocks)
		b.same("a new heap")
		if got := b.h.Forget(); got != 0 {
			t.Errorf("a new heap has %d forwards", got)
		}
	}
}

func TestNewRefused(t *testing.T) {
	for _, blocks := range append([]int{1, 0, -1, -2, -64, 65, 66, 128, 4096}, beyond...) {
		if h, e := heap.New(blocks); h != nil || e != api.ErrArg {
			t.Errorf("New(%d): %v, error %d", blocks, h, e)
		}
	}
}

// The shapes at both ends of all ranges; all others of small numbers are held against the model's rule.
func TestValidAndWords(t *testing.T) {
	for refs := -1; refs <= 17; refs++ {
		for data := -1; data <= 202; data++ {
			for kind := -1; kind <= 5; kind++ {
				s := api.Shape{Refs: refs, Data: data, Kind: kind}
				valid := refs >= 0 && refs <= 15 && data >= 0 && data <= 200 && kind >= 0 && kind <= 3
				valid = valid && (kind != api.Weak || refs > 0) && (kind != api.Ephemeron || refs > 1)
				words := 0
				if valid {
					words = (2 + refs + data + 1) / 2 * 2
				}
				if heap.Valid(s) != valid || heap.Words(s) != words {
					t.Fatalf("%v: Valid %t, Words %d, want %t, %d", s, heap.Valid(s), heap.Words(s), valid, words)
				}
			}
		}
	}
}

func TestValidAndWordsOfNumbersBeyond(t *testing.T) {
	for _, n := range beyond {
		for _, s := range []api.Shape{
			{Refs: n}, {Data: n}, {Kind: n}, {Refs: n, Data: n}, {Refs: n, Data: -n}, {Refs: n, Data: 2 - n}, {Refs: -n, Data: n},
			{Refs: 2, Data: n, Kind: api.Ephemeron}, {Refs: n, Data: 2, Kind: api.Weak}, {Refs: n, Data: n, Kind: n},
		} {
			if heap.Valid(s) || heap.Words(s) != 0 {
				t.Errorf("%v: Valid %t, Words %d", s, heap.Valid(s), heap.Words(s))
			}
		}
	}
}

func TestWordsOfSomeShapes(t *testing.T) {
	for _, c := range []struct {
		s    api.Shape
		want int
	}{
		{api.Shape{}, 2}, {api.Shape{Kind: api.Special}, 2}, {api.Shape{Data: 1}, 4}, {api.Shape{Refs: 1}, 4}, {api.Shape{Refs: 1, Data: 1}, 4},
		{api.Shape{Refs: 15, Data: 15}, 32}, {api.Shape{Refs: 15, Data: 16}, 34}, {api.Shape{Data: 30}, 32}, {api.Shape{Data: 31}, 34},
		{api.Shape{Refs: 15, Data: 200}, 218}, {api.Shape{Refs: 1, Kind: api.Weak}, 4}, {api.Shape{Refs: 2, Kind: api.Ephemeron}, 4},
	} {
		if got := heap.Words(c.s); got != c.want || !heap.Valid(c.s) {
			t.Errorf("Words(%v) = %d, want %d", c.s, got, c.want)
		}
	}
}

// A heap of the most blocks, full of the smallest objects, and of large ones.
func TestGreatestHeap(t *testing.T) {
	b := newBoth(t, api.MaxBlocks)
	for block := 1; block < 40; block++ {
		b.claim(block, block%api.MaxSpaces)
	}
	for block := 40; block < 64; block += 4 {
		b.claimLarge(block, 4, block%api.MaxSpaces)
		b.place(64*block, api.Shape{Refs: 15, Data: 200})
	}
	for _, block := range []int{1, 2, 39} {
		for addr := 64 * block; addr < 64*block+64; addr += 2 {
			b.place(addr, api.Shape{})
		}
	}
	b.same("a heap of the most blocks")
	n, e := b.h.Find(64*60 + 217)
	expectNumber(t, "Find of the last word of the last object", n, e, 64*60)
	n, e = b.h.Word(64*64 - 1)
	expectNumber(t, "the last word", n, e, 0)
	if b.h.Births() != 102 || b.h.Used() != 6*218+96*2 || len(b.h.All()) != 102 {
		t.Errorf("%d births, %d words used, %d objects", b.h.Births(), b.h.Used(), len(b.h.All()))
	}
}

// filled is a heap with all that a state has: blocks of all states, pins, references, forwards, objects that are gone.
func filled(t *testing.T) both {
	t.Helper()
	b := newBoth(t, 9)
	b.claim(1, 3)
	b.claim(3, 0)
	b.claimLarge(4, 2, 7)
	b.claimLarge(7, 1, 2)
	b.place(64, api.Shape{Refs: 2, Data: 3, Kind: api.Ephemeron})
	b.place(80, api.Shape{})
	b.place(96, api.Shape{Refs: 1, Data: 2, Kind: api.Weak})
	b.place(200, api.Shape{Refs: 15, Data: 15})
	b.place(256, api.Shape{Refs: 3, Data: 100, Kind: api.Special})
	b.pin(96)
	b.pin(256)
	b.link(64, 1, 256)
	b.link(256, 2, 96)
	b.move(96, 72)
	b.move(80, 126)
	b.kill(126)
	b.same("the filled heap")
	return b
}

// P2.9: whatever is done with a heap, its clone stays as it was, and the other way round.
func TestCloneStays(t *testing.T) {
	acts := map[string]func(h *heap.Heap){
		"Claim":      func(h *heap.Heap) { h.Claim(2, 1) },
		"ClaimLarge": func(h *heap.Heap) { h.ClaimLarge(2, 1, 1) },
		"Release":    func(h *heap.Heap) { h.Release(7) },
		"Retag":      func(h *heap.Heap) { h.Retag(4, 1) },
		"Place":      func(h *heap.Heap) { h.Place(100, api.Shape{Refs: 2}) },
		"Kill":       func(h *heap.Heap) { h.Kill(72) },
		"Move":       func(h *heap.Heap) { h.Move(72, 74) },
		"Forget":     func(h *heap.Heap) { h.Forget() },
		"SetRef":     func(h *heap.Heap) { h.SetRef(64, 1, 0) },
		"SetData":    func(h *heap.Heap) { h.SetData(64, 0, -1) },
		"Poke":       func(h *heap.Heap) { h.Poke(66, 9) },
		"Pin":        func(h *heap.Heap) { h.Pin(64) },
		"Unpin":      func(h *heap.Heap) { h.Unpin(256) },
	}
	for name, act := range acts {
		b := filled(t)
		clone := both{t, b.h.Clone(), b.m.clone()}
		clone.same("a clone")
		act(b.h)
		clone.same("a clone, after " + name + " of the heap")

		b = filled(t)
		act(b.h.Clone())
		b.same("a heap, after " + name + " of the clone")
	}
}

// R8: a clone gives the same identities as the heap would, and forgets as many forwards.
func TestCloneGoesOnInTheSameWay(t *testing.T) {
	b := filled(t)
	c := b.h.Clone()
	for _, h := range []*heap.Heap{b.h, c} {
		n, e := h.Place(110, api.Shape{})
		expectNumber(t, "Place", n, e, 6)
		if n := h.Forget(); n != 2 {
			t.Errorf("Forget = %d", n)
		}
		if n := h.Forget(); n != 0 {
			t.Errorf("a second Forget = %d", n)
		}
	}
}

// R5: results are new memory.
func TestResultsAreNewMemory(t *testing.T) {
	b := filled(t)
	for _, l := range [][]int{b.h.Objects(1), b.h.All()} {
		l[0] = 9999
		_ = append(l[:1], 8888)
	}
	gaps, lines := b.h.Gaps(1), b.h.Lines(1)
	gaps[0] = api.Run{Start: 1, Size: 1}
	lines[0] = !lines[0]
	b.same("after results were written to")
}
