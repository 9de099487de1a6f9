package compact_test

import (
	"slices"
	"testing"

	"dustcart/api"
	"dustcart/compact"
	"dustcart/heap"
	"dustcart/side"
)

// The plan does not ask for roots: nothing marked, everything marked, and each one alone.
func TestPlanOfMarks(t *testing.T) {
	w := newWorld(t, 6, 1)
	w.put(64, words6)
	w.put(80, words20)
	w.put(130, words32)
	w.pin(80)
	w.claim(0, 4, 5)
	w.put(322, words2)
	w.put(192, words34)
	w.plans(w.table())
	w.plans(w.table(64))
	w.plans(w.table(80))
	w.plans(w.table(192))
	w.plans(w.table(130), moves(130, 64)...)
	w.plans(w.table(322), moves(322, 256)...)
	w.plans(w.table(64, 130), moves(130, 70)...)
	w.plans(w.table(80, 130), moves(130, 128)...) // 28 words are left in block 1
	w.plans(w.table(w.h.All()...), moves(322, 256, 130, 128)...)
	w.h.Unpin(80)
	w.plans(w.table(w.h.All()...), moves(322, 256, 80, 70, 130, 90)...)
}

// Marks of places without an object, of other words of objects, of blocks that are not used, and of pinned objects that are gone.
func TestPlanOfOtherMarks(t *testing.T) {
	w := newWorld(t, 9, 1)
	w.put(66, words6)
	w.put(80, words20)
	w.put(120, words4)
	w.claim(2, 2)
	w.put(140, words2)
	w.put(192, words218) // blocks 3 to 6
	w.put(448, words32)
	w.pin(80, 140)
	w.ok("Kill", w.h.Kill(140))
	w.put(184, words2)
	var others []int
	for addr := 0; addr < 64*9; addr += 2 {
		if !w.h.Has(addr) {
			others = append(others, addr)
		}
	}
	w.plans(w.table(others...))
	w.plans(w.table(append(others, 120)...), moves(120, 64)...)
	w.plans(w.table(append(others, 66, 184)...), moves(184, 128, 66, 64)...)
	w.plans(w.table(append(others, w.h.All()...)...), moves(184, 128, 66, 64, 120, 70)...)
}

// Plan of heaps that are not sound: references are not looked at.
func TestPlanOfBrokenHeap(t *testing.T) {
	w := newWorld(t, 4, 1)
	w.put(66, api.Shape{Refs: 2, Kind: api.Ephemeron})
	for _, v := range append([]int{1, 64, 70}, beyond...) {
		w.ok("Poke", w.h.Poke(68, v))
		w.plans(w.table(66), moves(66, 64)...)
		w.wastes(2)
		w.refuses(everywhere, api.ErrState)
	}
}

// The plan of marks of the kept objects is what Collect does, and that of Spaces what they do; a plan does not become another one by being made.
func TestPlanIsCarriedOut(t *testing.T) {
	w := threeRows(t)
	list, e := compact.Plan(w.h, w.marks())
	w.ok("Plan", e)
	again, _ := compact.Plan(w.h, w.marks())
	clear(again)
	third, _ := compact.Plan(w.h, w.marks())
	if !slices.Equal(list, third) || len(list) != 6 {
		t.Errorf("%v, then %v", list, third)
	}
	if _, got := w.collect(everywhere); !slices.Equal(got, list) {
		t.Errorf("Collect: %v, the plan %v", got, list)
	}
	w.plans(w.marks())
	w.plans(w.table(w.h.All()...))
}

// Tables that are no marks of a heap, heaps and tables that no function returned.
func TestPlanOfNone(t *testing.T) {
	w := threeRows(t)
	entries := 32 * w.h.Blocks()
	refused := func(h *heap.Heap, marks *side.Table) {
		t.Helper()
		before := w.state()
		if list, e := compact.Plan(h, marks); len(list) != 0 || e != api.ErrArg {
			t.Errorf("Plan: %v, error %d, want error %d", list, e, api.ErrArg)
		}
		w.unchanged("after Plan that was refused", before)
	}
	for _, n := range []int{1, 2, entries / 8, entries / 4, entries / 2, entries - 32, entries - 1, entries, entries + 1, entries + 32, 2 * entries, 4 * entries, 64 * w.h.Blocks(), api.MaxEntries} {
		for _, width := range []int{1, 2, 4, 8} {
			if n == entries && width == 1 {
				continue
			}
			marks, e := side.New(n, width)
			w.ok("side.New", e)
			refused(w.h, marks)
			w.ok("Fill", marks.Fill(0, n, 1))
			refused(w.h, marks)
		}
	}
	for _, marks := range []*side.Table{w.marks(), nil, {}} {
		for _, h := range []*heap.Heap{w.h, nil, {}} {
			if h != w.h || marks.Width() == 0 {
				refused(h, marks)
			}
		}
	}
}
