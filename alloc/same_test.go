package alloc_test

import (
	"math"
	"slices"
	"testing"

	"dustcart/alloc"
	"dustcart/api"
	"dustcart/heap"
)

// The policies.
const (
	First = iota
	Best
	Next
	Bump
	Lines
	policies
)

// beyond are numbers far outside of all ranges, at which a sum, a difference or a product would overflow.
var beyond = []int{math.MinInt, math.MinInt + 1, math.MinInt / 2, math.MinInt / 64, math.MinInt32, -1 << 16, 1 << 16, math.MaxInt32, math.MaxInt32 + 1, math.MaxInt / 64, math.MaxInt/2 + 1, math.MaxInt - 1, math.MaxInt}

// sized returns a shape of so many words.
func sized(words int) api.Shape {
	return api.Shape{Data: words - 2}
}

func newHeap(t *testing.T, blocks int) *heap.Heap {
	t.Helper()
	h, e := heap.New(blocks)
	if e != api.OK {
		t.Fatalf("heap.New(%d): error %d", blocks, e)
	}
	return h
}

func newAllocator(t *testing.T, h *heap.Heap, space, policy int) *alloc.Allocator {
	t.Helper()
	a, e := alloc.New(h, space, policy)
	if e != api.OK || a == nil {
		t.Fatalf("New(h, %d, %d): %v, error %d", space, policy, a, e)
	}
	return a
}

// both is a heap with an allocator, and its twin with a plain one: what is done with the one is done with the other.
type both struct {
	t    *testing.T
	h    *heap.Heap
	a    *alloc.Allocator
	twin *heap.Heap
	p    *plain
}

// newBoth returns an allocator for the space 2.
func newBoth(t *testing.T, blocks, policy int) both {
	t.Helper()
	h, twin := newHeap(t, blocks), newHeap(t, blocks)
	return both{t, h, nil, twin, nil}.other(2, policy)
}

// other returns another allocator on the same heap.
func (b both) other(space, policy int) both {
	b.t.Helper()
	b.a, b.p = newAllocator(b.t, b.h, space, policy), &plain{h: b.twin, space: space, policy: policy}
	return b
}

// clone returns an allocator and a heap that both are clones.
func (b both) clone() both {
	b.t.Helper()
	h, twin := b.h.Clone(), b.twin.Clone()
	p := *b.p
	p.h = twin
	return both{b.t, h, b.a.Clone(h), twin, &p}
}

// do does what somebody else does with the heap, which must succeed.
func (b both) do(what string, act func(h *heap.Heap) api.Errno) {
	b.t.Helper()
	for _, h := range []*heap.Heap{b.twin, b.h} {
		if e := act(h); e != api.OK {
			b.t.Fatalf("%s: the test itself is wrong: error %d", what, e)
		}
	}
}

func (b both) claim(space int, blocks ...int) {
	b.t.Helper()
	for _, block := range blocks {
		b.do("Claim", func(h *heap.Heap) api.Errno { return h.Claim(block, space) })
	}
}

func (b both) release(blocks ...int) {
	b.t.Helper()
	for _, block := range blocks {
		b.do("Release", func(h *heap.Heap) api.Errno { return h.Release(block) })
	}
}

func (b both) retag(block, space int) {
	b.t.Helper()
	b.do("Retag", func(h *heap.Heap) api.Errno { return h.Retag(block, space) })
}

func (b both) put(addr, words int) {
	b.t.Helper()
	b.do("Place", func(h *heap.Heap) api.Errno {
		_, e := h.Place(addr, sized(words))
		return e
	})
}

func (b both) kill(addrs ...int) {
	b.t.Helper()
	for _, addr := range addrs {
		b.do("Kill", func(h *heap.Heap) api.Errno { return h.Kill(addr) })
	}
}

// gaps claims a block and covers it with objects of two words, but for some gaps.
func (b both) gaps(block, space int, gaps ...api.Run) {
	b.t.Helper()
	b.claim(space, block)
	for addr := 64 * block; addr < 64*block+64; addr += 2 {
		inGap := func(g api.Run) bool { return g.Start <= addr && addr < g.Start+g.Size }
		if !slices.ContainsFunc(gaps, inGap) {
			b.put(addr, 2)
		}
	}
	if got := b.h.Gaps(block); !slices.Equal(got, gaps) {
		b.t.Fatalf("the test itself is wrong: gaps %v, want %v", got, gaps)
	}
}

// alloc lets both place an object; the address must be that of the plain allocator.
func (b both) alloc(s api.Shape) (int, api.Errno) {
	b.t.Helper()
	want, wantE := b.p.Alloc(s)
	addr, e := b.a.Alloc(s)
	if addr != want || e != wantE {
		b.t.Fatalf("policy %d: Alloc(%v) = %d, error %d, want %d, error %d", b.p.policy, s, addr, e, want, wantE)
	}
	return addr, e
}

// place lets both place objects of so many words; the address is told by the test.
func (b both) place(words, want int) {
	b.t.Helper()
	addr, e := b.alloc(sized(words))
	if addr != want || e != api.OK {
		b.t.Errorf("policy %d: Alloc of %d words = %d, error %d, want %d", b.p.policy, words, addr, e, want)
	}
	b.same("after Alloc")
}

// refused expects an error for a shape, and that nothing has changed.
func (b both) refused(s api.Shape, want api.Errno) {
	b.t.Helper()
	before := b.clone()
	addr, e := b.a.Alloc(s)
	if addr != 0 || e != want {
		b.t.Errorf("policy %d: Alloc(%v) = %d, error %d, want error %d", b.p.policy, s, addr, e, want)
	}
	expectSame(b.t, "after Alloc was refused", b.h, before.h)
	expectCursor(b.t, b.a, before.p.at)
	b.same("after Alloc was refused")
}

func (b both) reset() {
	b.t.Helper()
	b.a.Reset()
	b.p.at = [4]int{}
	b.same("after Reset")
}

// same compares all that the allocator and the heap tell with what their twins do.
func (b both) same(when string) {
	b.t.Helper()
	if b.a.Space() != b.p.space || b.a.Policy() != b.p.policy {
		b.t.Fatalf("%s: space %d, policy %d, want %d, %d", when, b.a.Space(), b.a.Policy(), b.p.space, b.p.policy)
	}
	expectCursor(b.t, b.a, b.p.at)
	expectSame(b.t, when, b.h, b.twin)
}

func cursorOf(a *alloc.Allocator) [4]int {
	cursor, limit, overCursor, overLimit := a.Cursor()
	return [4]int{cursor, limit, overCursor, overLimit}
}

func expectCursor(t *testing.T, a *alloc.Allocator, want [4]int) {
	t.Helper()
	if got := cursorOf(a); got != want {
		t.Fatalf("Cursor = %v, want %v", got, want)
	}
}

// cursor expects cursors and limits that are told by the test.
func (b both) cursor(want ...int) {
	b.t.Helper()
	expectCursor(b.t, b.a, [4]int(want))
}

// state is all that a heap tells of its blocks, its words, and its objects, as numbers.
func state(h *heap.Heap) []int {
	list := append(make([]int, 0, 128*h.Blocks()), h.Blocks(), h.Births(), h.Used())
	list = append(list, h.All()...)
	for block := range h.Blocks() {
		list = append(list, h.State(block), h.Space(block))
	}
	for addr := range 64 * h.Blocks() {
		word, _ := h.Word(addr)
		list = append(list, word)
		if h.Pinned(addr) {
			list = append(list, addr)
		}
	}
	return list
}

func expectSame(t *testing.T, when string, got, want *heap.Heap) {
	t.Helper()
	if !slices.Equal(state(got), state(want)) {
		t.Fatalf("%s: the heap is not as it should be: objects %v, want %v", when, got.All(), want.All())
	}
}

func expectError(t *testing.T, what string, got, want api.Errno) {
	t.Helper()
	if got != want {
		t.Errorf("%s: error %d, want %d", what, got, want)
	}
}
