package heap_test

import (
	"testing"

	"dustcart/api"
	"dustcart/heap"
)

func wrongBlocks(blocks int) []int {
	return append([]int{0, -1, -2, -blocks, blocks, blocks + 1, 2 * blocks, 64 * blocks}, beyond...)
}

func wrongSpaces() []int {
	return append([]int{-1, -2, -8, 8, 9, 16, 64}, beyond...)
}

// P2.8: calls for blocks that are none, and spaces that are none; ErrArg is ahead of ErrTaken and ErrState.
func TestBlockCallsRefused(t *testing.T) {
	b := filled(t)
	for _, block := range wrongBlocks(9) {
		for _, space := range []int{0, 7, -1, 8} {
			expectError(t, "Claim of no block", b.h.Claim(block, space), api.ErrArg)
			expectError(t, "Retag of no block", b.h.Retag(block, space), api.ErrArg)
			for _, n := range append([]int{1, 2, 9, 0, -1}, beyond...) {
				expectError(t, "ClaimLarge of no block", b.h.ClaimLarge(block, n, space), api.ErrArg)
			}
		}
		expectError(t, "Release of no block", b.h.Release(block), api.ErrArg)
	}
	b.same("after calls for no blocks")
	for _, space := range wrongSpaces() {
		for block := range 9 { // free, used, head and tail blocks
			expectError(t, "Claim for no space", b.h.Claim(block, space), api.ErrArg)
			expectError(t, "Retag to no space", b.h.Retag(block, space), api.ErrArg)
			expectError(t, "ClaimLarge for no space", b.h.ClaimLarge(block, 1, space), api.ErrArg)
		}
	}
	b.same("after calls for no spaces")
}

func TestClaimLargeOfTooManyBlocks(t *testing.T) {
	b := newBoth(t, 9)
	b.claim(8, 1) // ErrArg, even though a block is taken
	for block := 1; block < 9; block++ {
		for _, n := range append([]int{0, -1, -8, 10 - block, 11 - block, 9, 10, 64}, beyond...) {
			b.refused("ClaimLarge of too many or too few blocks", b.h.ClaimLarge(block, n, 0), api.ErrArg)
		}
		b.refused("ClaimLarge up to the end", b.h.ClaimLarge(block, 9-block, 0), api.ErrTaken)
	}
}

func TestReleaseAndRetagOfOtherStates(t *testing.T) {
	b := filled(t)
	for _, block := range []int{2, 6, 8, 5} { // free blocks, and a tail with words of an object
		b.refused("Release of a free or tail block", b.h.Release(block), api.ErrState)
		b.refused("Retag of a free or tail block", b.h.Retag(block, 1), api.ErrState)
	}
}

// ErrForm is ahead of ErrArg, ErrArg of ErrState, and ErrState of ErrTaken.
func TestPlaceRefused(t *testing.T) {
	wrong := []api.Shape{{Refs: 16}, {Refs: -1}, {Data: 201}, {Data: -1}, {Kind: 4}, {Kind: -1}, {Kind: api.Weak}, {Refs: 1, Kind: api.Ephemeron}, {Data: 5, Kind: api.Ephemeron}}
	for _, n := range beyond {
		wrong = append(wrong, api.Shape{Refs: n}, api.Shape{Data: n}, api.Shape{Kind: n}, api.Shape{Refs: n, Data: n, Kind: n})
	}
	b := filled(t)
	place := func(what string, addr int, s api.Shape, want api.Errno) {
		t.Helper()
		ident, e := b.h.Place(addr, s)
		expectError(t, what, alone(ident, e), want)
	}
	for _, s := range wrong {
		for _, addr := range append([]int{100, 64, 65, 0, -2, 128, 576}, beyond...) {
			place("Place of no shape", addr, s, api.ErrForm)
		}
	}
	for _, addr := range append([]int{-1, -2, -64, 65, 101, 1, 63, 576, 577, 578, 640}, beyond...) {
		for _, s := range []api.Shape{{}, {Refs: 15, Data: 200}} {
			place("Place at no even address of the heap", addr, s, api.ErrArg)
		}
	}
	place("Place of an object that overlaps another one and ends behind the block", 230, api.Shape{Data: 30}, api.ErrState)
	place("Place of a small object on a large one", 256, api.Shape{}, api.ErrState)
	place("Place of a small object on a large one", 300, api.Shape{}, api.ErrState)
	place("Place of a large object on a shorter one", 256, api.Shape{Data: 180}, api.ErrState)
	place("Place of a large object on a longer one", 256, api.Shape{Data: 50}, api.ErrState)
	place("Place of a large object on a small one", 64, api.Shape{Data: 50}, api.ErrState)
	place("Place of a large object on one that is as long", 256, api.Shape{Data: 103}, api.ErrTaken)
	place("Place of a small object on another one", 202, api.Shape{}, api.ErrTaken)
	b.same("after refused calls of Place")
}

// As of Place: ErrNone is ahead of all others, ErrArg of ErrState, and ErrState of ErrTaken.
func TestMoveRefusedInOrder(t *testing.T) {
	b := filled(t)
	for _, c := range []struct {
		from, to int
		want     api.Errno
	}{
		{66, 65, api.ErrNone}, {66, 100, api.ErrNone}, {126, 126, api.ErrNone}, {576, 576, api.ErrNone},
		{64, 65, api.ErrArg}, {64, -2, api.ErrArg}, {64, 576, api.ErrArg}, {256, 257, api.ErrArg}, {256, 576, api.ErrArg},
		{200, 230, api.ErrState}, {64, 256, api.ErrState}, {64, 128, api.ErrState}, {256, 64, api.ErrState}, {256, 448, api.ErrState}, {256, 258, api.ErrState},
		{64, 202, api.ErrTaken}, {64, 68, api.ErrTaken}, {72, 70, api.ErrTaken}, {200, 64, api.ErrTaken},
	} {
		b.refused("Move", b.h.Move(c.from, c.to), c.want)
	}
}

// R1: methods of a nil heap and of one that no function returned; ErrState is ahead of all other errors.
func TestHeapsThatNoFunctionReturned(t *testing.T) {
	var none *heap.Heap
	for what, h := range map[string]*heap.Heap{"nil": none, "zero": {}, "new": new(heap.Heap)} {
		for range 2 { // the calls change nothing: they answer the same again
			for _, n := range append([]int{-1, 0, 1, 2, 64, 65, 128, 4096}, beyond...) {
				expectState(t, what, h, n)
				expectNothing(t, what, h, n)
			}
		}
	}
}

func expectState(t *testing.T, what string, h *heap.Heap, n int) {
	t.Helper()
	for _, i := range []int{0, 1, n} {
		for _, s := range []api.Shape{{}, {Refs: 2}, {Refs: 16}, {Refs: n, Data: i}} {
			ident, e := h.Place(n, s)
			expectError(t, what+": Place", alone(ident, e), api.ErrState)
		}
		to, e := h.Forward(n)
		expectError(t, what+": Forward", alone(to, e), api.ErrState)
		addr, e := h.Find(n)
		expectError(t, what+": Find", alone(addr, e), api.ErrState)
		addr, e = h.At(n)
		expectError(t, what+": At", alone(addr, e), api.ErrState)
		word, e := h.Word(n)
		expectError(t, what+": Word", alone(word, e), api.ErrState)
		for _, e := range []api.Errno{
			h.Claim(n, i), h.Claim(i, n), h.ClaimLarge(n, i, 0), h.ClaimLarge(1, n, i), h.ClaimLarge(1, 1, n), h.Release(n), h.Retag(n, i), h.Retag(i, n),
			h.Kill(n), h.Move(n, i), h.Move(i, n), refErr(h, n, i), refErr(h, i, n), dataErr(h, n, i), identErr(h, n), shapeErr(h, n),
			h.SetRef(n, i, i), h.SetRef(i, i, n), h.SetData(n, i, i), h.Poke(n, i), h.Pin(n), h.Unpin(n),
		} {
			expectError(t, what, e, api.ErrState)
		}
	}
}

func expectNothing(t *testing.T, what string, h *heap.Heap, n int) {
	t.Helper()
	if h.Has(n) || h.Pinned(n) || len(h.Objects(n)) != 0 || len(h.All()) != 0 || len(h.Gaps(n)) != 0 || len(h.Lines(n)) != 0 {
		t.Errorf("a %s heap, number %d: %t, %t, %v, %v, %v, %v", what, n, h.Has(n), h.Pinned(n), h.Objects(n), h.All(), h.Gaps(n), h.Lines(n))
	}
	if h.State(n) != -1 || h.Space(n) != -1 {
		t.Errorf("a %s heap, block %d: state %d, space %d", what, n, h.State(n), h.Space(n))
	}
	if h.Forget() != 0 || h.Blocks() != 0 || h.Births() != 0 || h.Used() != 0 {
		t.Errorf("a %s heap: %d forwards, %d blocks, %d births, %d words", what, h.Forget(), h.Blocks(), h.Births(), h.Used())
	}
	if h.Clone() != nil {
		t.Errorf("a %s heap has a clone", what)
	}
}
