package alloc_test

import (
	"testing"

	"dustcart/alloc"
	"dustcart/api"
	"dustcart/heap"
)

// nowhere are numbers that are not from 0 to n - 1.
func nowhere(n int) []int {
	return append([]int{-1, -2, -n, n, n + 1, 2 * n, 64}, beyond...)
}

func TestNewRefused(t *testing.T) {
	h := newHeap(t, 3)
	before := h.Clone()
	refused := func(h *heap.Heap, space, policy int) {
		t.Helper()
		if a, e := alloc.New(h, space, policy); a != nil || e != api.ErrArg {
			t.Errorf("New(h, %d, %d): %v, error %d", space, policy, a, e)
		}
	}
	for _, space := range nowhere(api.MaxSpaces) {
		for policy := -1; policy <= int(policies); policy++ {
			refused(h, space, policy)
		}
	}
	for _, policy := range nowhere(int(policies)) {
		for space := -1; space <= api.MaxSpaces; space++ {
			refused(h, space, policy)
		}
	}
	expectSame(t, "after New was refused", h, before)
	for _, none := range []*heap.Heap{nil, {}, new(heap.Heap)} {
		for space := -1; space <= api.MaxSpaces; space++ {
			for policy := -1; policy <= int(policies); policy++ {
				refused(none, space, policy)
			}
		}
	}
}

// badShapes are shapes that are not valid.
func badShapes() []api.Shape {
	list := []api.Shape{
		{Refs: -1}, {Refs: 16}, {Data: -1}, {Data: -2}, {Data: 201}, {Kind: -1}, {Kind: 4}, {Refs: 15, Data: 201}, {Refs: 16, Data: 200}, {Refs: 3, Data: -3},
		{Kind: api.Weak}, {Data: 5, Kind: api.Weak}, {Kind: api.Ephemeron}, {Refs: 1, Kind: api.Ephemeron}, {Refs: 16, Kind: api.Ephemeron}, {Refs: 1, Data: 200, Kind: api.Ephemeron}, {Refs: 2, Kind: 4},
	}
	for _, n := range beyond {
		list = append(list, api.Shape{Refs: n}, api.Shape{Data: n}, api.Shape{Refs: 2, Kind: n}, api.Shape{Refs: n, Data: n, Kind: n}, api.Shape{Refs: n, Data: -n}, api.Shape{Refs: n, Data: 2 - n})
	}
	return list
}

// P5.6: ErrForm is ahead of ErrFull.
func TestBadShapes(t *testing.T) {
	for policy := range policies {
		b := newBoth(t, 2, policy)
		c := newBoth(t, 2, policy)
		c.place(32, 64)
		c.place(32, 96)
		for _, s := range badShapes() {
			b.refused(s, api.ErrForm)
			c.refused(s, api.ErrForm)
		}
		b.place(2, 64)
		c.refused(sized(2), api.ErrFull)
	}
}

// R1: methods of a nil allocator and of one that no function returned; ErrState is ahead of all other errors.
func TestAllocatorsThatNoFunctionReturned(t *testing.T) {
	h := newHeap(t, 3)
	for what, a := range map[string]*alloc.Allocator{"nil": nil, "zero": {}, "new": new(alloc.Allocator)} {
		for range 2 { // the calls change nothing: they answer the same again
			for _, s := range append(badShapes(), api.Shape{}, sized(32), sized(34), api.Shape{Refs: 15, Data: 200}) {
				addr, e := a.Alloc(s)
				if addr != 0 || e != api.ErrState {
					t.Errorf("a %s allocator: Alloc(%v) = %d, error %d", what, s, addr, e)
				}
			}
			a.Reset()
			expectCursor(t, a, [4]int{})
			if a.Space() != 0 || a.Policy() != 0 {
				t.Errorf("a %s allocator: space %d, policy %d", what, a.Space(), a.Policy())
			}
			for _, on := range []*heap.Heap{h, nil, {}} {
				if a.Clone(on) != nil {
					t.Errorf("a %s allocator has a clone", what)
				}
			}
		}
	}
	expectSame(t, "after calls of no allocators", h, newHeap(t, 3))
}
