package heap_test

import (
	"testing"

	"dustcart/api"
	"dustcart/heap"
)

// An object of each number of words, at both ends of a block; one that would end behind its block is refused.
func TestSmallObjectsAtTheEndsOfABlock(t *testing.T) {
	for words := 2; words <= api.LargeWords; words += 2 {
		for _, data := range []int{words - 2, words - 3} { // an even and an odd number of words
			if data < 0 {
				continue
			}
			s := api.Shape{Data: data}
			b := newBoth(t, 4)
			b.claim(1, 0)
			b.claim(2, 0)
			b.claim(3, 0)
			for end := 130; end < 128+words; end += 2 {
				_, e := b.h.Place(end-words, s)
				b.refused("Place across the end of a used block", e, api.ErrState)
				_, e = b.h.Place(end+64-words, s)
				b.refused("Place across the end of a used block", e, api.ErrState)
				_, e = b.h.Place(end+128-words, s)
				b.refused("Place across the end of the heap", e, api.ErrState)
			}
			for _, addr := range []int{128 - words, 128, 192 - words, 192, 256 - words} {
				b.place(addr, s)
			}
			b.same("objects at the ends of a block")
		}
	}
}

func TestSmallObjectsNeedAUsedBlock(t *testing.T) {
	b := newBoth(t, 6)
	b.claim(1, 0)
	b.claimLarge(2, 2, 0)
	for _, s := range []api.Shape{{}, {Data: 2}, {Refs: 15, Data: 15}} {
		for _, addr := range []int{0, 2, 62, 32, 128, 160, 192, 256, 318, 320, 382} {
			_, e := b.h.Place(addr, s)
			b.refused("Place of a small object in a block of another state", e, api.ErrState)
		}
	}
}

// The greatest small object and the least large one need blocks of different states.
func TestLeastLargeObject(t *testing.T) {
	small, large := api.Shape{Refs: 15, Data: 15}, api.Shape{Refs: 15, Data: 16}
	b := newBoth(t, 4)
	b.claim(1, 0)
	b.claimLarge(2, 1, 0)
	b.claimLarge(3, 1, 0)
	_, e := b.h.Place(64, large)
	b.refused("Place of a large object in a used block", e, api.ErrState)
	_, e = b.h.Place(128, small)
	b.refused("Place of a small object in a head", e, api.ErrState)
	b.place(64, small)
	b.place(96, small)
	b.place(128, large)
	b.place(192, api.Shape{Data: 62})
	b.same("the greatest small objects and one-block large ones")
}

// A large object needs just as many tails as its words do, at the words at which one more is needed.
func TestLargeObjectsNeedTheirTails(t *testing.T) {
	for _, c := range []struct{ data, blocks int }{
		{31, 1}, {61, 1}, {62, 1}, {63, 2}, {64, 2}, {125, 2}, {126, 2}, {127, 3}, {189, 3}, {190, 3}, {191, 4}, {200, 4},
	} {
		s := api.Shape{Data: c.data}
		for claimed := 1; claimed <= 6; claimed++ {
			b := newBoth(t, 10)
			b.claimLarge(2, claimed, 3)
			b.claim(2+claimed, 3) // the block behind is no tail
			if claimed != c.blocks {
				_, e := b.h.Place(128, s)
				b.refused("Place with too many or too few tails", e, api.ErrState)
				continue
			}
			for _, addr := range []int{130, 126, 160, 190, 192, 64} {
				_, e := b.h.Place(addr, s)
				b.refused("Place of a large object elsewhere", e, api.ErrState)
			}
			b.place(128, s)
			b.same("a large object")
			_, e := b.h.Place(128, s)
			b.refused("Place of a second large object", e, api.ErrTaken)
		}
	}
}

func TestLargeObjectWithMostFields(t *testing.T) {
	b := newBoth(t, 5)
	b.claimLarge(1, 4, 0)
	b.place(64, api.Shape{Refs: 15, Data: 200, Kind: api.Special})
	b.same("the greatest object")
	n, e := b.h.Find(64 + 217)
	expectNumber(t, "Find of its last word", n, e, 64)
	_, e = b.h.Find(64 + 218)
	expectError(t, "Find behind it", e, api.ErrNone)
	if b.h.Used() != 218 {
		t.Errorf("Used = %d", b.h.Used())
	}
}

// A large object at the end of the heap, and two heads of which one follows the other.
func TestLargeObjectsSideBySide(t *testing.T) {
	b := newBoth(t, 5)
	b.claimLarge(1, 2, 1)
	b.claimLarge(3, 2, 2)
	b.place(192, api.Shape{Data: 126})
	b.place(64, api.Shape{Data: 126})
	b.same("large objects side by side")
	b.kill(64)
	b.same("after one was killed")
	b.place(64, api.Shape{Refs: 4, Data: 80})
	b.same("after another one took its place")
}

// P2.1: no object is placed on a word of another one, whichever of both is the longer one.
func TestObjectsDoNotOverlap(t *testing.T) {
	for _, other := range []api.Shape{{}, {Data: 2}, {Data: 5}, {Data: 30}} {
		b := newBoth(t, 3)
		b.claim(1, 0)
		b.place(90, other)
		for _, s := range []api.Shape{{}, {Data: 1}, {Data: 8}, {Data: 20}} {
			for addr := 64; addr+heap.Words(s) <= 128; addr += 2 {
				if addr+heap.Words(s) <= 90 || addr >= 90+heap.Words(other) {
					b.place(addr, s)
					b.kill(addr)
					continue
				}
				_, e := b.h.Place(addr, s)
				expectError(t, "Place on another object", e, api.ErrTaken)
			}
			b.same("after objects around it")
		}
	}
}

// P2.3: identities rise by one, whatever was killed, and are those of no other object again.
func TestIdentities(t *testing.T) {
	b := newBoth(t, 3)
	b.claim(1, 0)
	for want := 1; want <= 40; want++ {
		addr := 64 + 2*(want%8)
		ident, e := b.h.Place(addr, api.Shape{})
		expectNumber(t, "Place", ident, e, want)
		b.m.Place(addr, api.Shape{})
		at, e := b.h.At(want)
		expectNumber(t, "At", at, e, addr)
		if want%3 > 0 {
			b.kill(addr)
			_, e = b.h.At(want)
			expectError(t, "At of an object that was killed", e, api.ErrNone)
		}
		if want%3 == 0 {
			b.move(addr, 96)
			at, e = b.h.At(want)
			expectNumber(t, "At of an object that was moved", at, e, 96)
			b.kill(96)
		}
	}
	if b.h.Births() != 40 || b.h.Used() != 0 {
		t.Errorf("%d births, %d words used", b.h.Births(), b.h.Used())
	}
	b.do("Release", func(x memory) api.Errno { return x.Release(1) })
	b.claim(1, 0)
	ident, e := b.h.Place(64, api.Shape{})
	expectNumber(t, "Place in a block that was released", ident, e, 41)
}

// A refused Place uses up no identity.
func TestRefusedPlaceIsNoBirth(t *testing.T) {
	b := newBoth(t, 3)
	b.claim(1, 0)
	b.place(64, api.Shape{})
	for _, addr := range []int{64, 65, 0, 128, -2, 192} {
		if n, e := b.h.Place(addr, api.Shape{}); n != 0 || e == api.OK {
			t.Errorf("Place(%d): %d, error %d", addr, n, e)
		}
	}
	if n, e := b.h.Place(66, api.Shape{Refs: -1}); n != 0 || e != api.ErrForm {
		t.Errorf("Place of no shape: %d, error %d", n, e)
	}
	ident, e := b.h.Place(66, api.Shape{})
	expectNumber(t, "Place", ident, e, 2)
}

// What an object was is gone when it is killed: an object in its place is not pinned, and its fields are 0.
func TestKillLeavesNothing(t *testing.T) {
	for _, addr := range []int{64, 128} {
		s := api.Shape{Refs: 3, Data: 8}
		if addr == 128 {
			s.Data = 90
		}
		b := newBoth(t, 4)
		b.claim(1, 0)
		b.claimLarge(2, 2, 0)
		b.place(addr, s)
		b.link(addr, 2, addr)
		b.pin(addr)
		b.kill(addr)
		b.same("Kill")
		b.refused("a second Kill", b.h.Kill(addr), api.ErrNone)
		b.do("Place", func(x memory) api.Errno { _, e := x.Place(addr, s); return e })
		b.same("Place after Kill")
		if b.h.Pinned(addr) {
			t.Errorf("a new object at %d is pinned", addr)
		}
	}
}

// P2.4: moves to each place around, over the object's own words and beside them, with other objects at both sides.
func TestMovesByAFewWords(t *testing.T) {
	for _, s := range []api.Shape{{}, {Data: 1}, {Refs: 2, Data: 3}, {Refs: 1, Data: 11}, {Refs: 3, Data: 18, Kind: api.Ephemeron}} {
		for _, pinned := range []bool{false, true} {
			for to := 70; to+heap.Words(s) <= 122; to += 2 {
				b := newBoth(t, 3)
				b.claim(1, 0)
				b.place(64, api.Shape{Data: 4})
				b.place(122, api.Shape{Data: 4})
				b.place(90, s)
				for i := range s.Refs {
					b.link(90, i, []int{64, 90, 122}[i])
				}
				b.damage(s)
				if pinned {
					b.pin(90)
				}
				b.move(90, to)
				b.same("Move")
				at, e := b.h.Forward(90)
				expectNumber(t, "Forward", at, e, to)
				if b.h.Pinned(to) != pinned || b.h.Forget() != 1 {
					t.Errorf("Move(90, %d) of %v: pinned %t", to, s, b.h.Pinned(to))
				}
			}
		}
	}
}

// damage pokes a number that is no address into the first field of the object at 90: a move keeps it as it is.
func (b both) damage(s api.Shape) {
	b.t.Helper()
	if s.Refs+s.Data > 0 {
		b.do("Poke", func(x memory) api.Errno { return x.Poke(92, -77) })
	}
}

// A move onto another object, or out of the block, changes nothing, however much of its own words it overlaps.
func TestRefusedMoves(t *testing.T) {
	b := newBoth(t, 5)
	b.claim(1, 0)
	b.claimLarge(2, 2, 0)
	b.place(64, api.Shape{Data: 1})
	b.place(70, api.Shape{Data: 8})
	b.place(84, api.Shape{})
	b.pin(70)
	for _, to := range []int{66, 64, 76, 78, 80, 82, 84} {
		b.refused("Move onto another object", b.h.Move(70, to), api.ErrTaken)
	}
	for _, to := range []int{0, 120, 126, 128, 192, 256, 318} {
		b.refused("Move out of the block", b.h.Move(70, to), api.ErrState)
	}
	for _, to := range append([]int{71, 69, 85, -1, -2, -70, 320, 322}, beyond...) {
		b.refused("Move to no even address of the heap", b.h.Move(70, to), api.ErrArg)
	}
	for _, from := range append([]int{-1, 0, 1, 62, 65, 66, 68, 71, 72, 74, 79, 82, 128, 320}, beyond...) {
		b.refused("Move of no object", b.h.Move(from, 100), api.ErrNone)
		b.refused("Move of no object to no address", b.h.Move(from, -1), api.ErrNone)
	}
	b.move(70, 68)
	b.move(68, 70)
	b.move(70, 72)
	b.same("moves that just fit")
}

func TestMoveToAnotherBlock(t *testing.T) {
	b := newBoth(t, 4)
	b.claim(1, 0)
	b.claim(3, 7)
	b.place(64, api.Shape{Refs: 1, Data: 3})
	b.place(126, api.Shape{})
	b.link(64, 0, 126)
	b.move(64, 250)
	b.move(126, 192)
	b.same("Move to a block of another space")
	to, e := b.h.Ref(250, 0)
	expectNumber(t, "a reference, which no move changes", to, e, 126)
	b.refused("Move to a free block", b.h.Move(250, 128), api.ErrState)
}

// Of a large object the blocks that it leaves stay claimed; it moves only to as many blocks as it needs.
func TestMoveOfLargeObjects(t *testing.T) {
	b := newBoth(t, 14)
	b.claimLarge(1, 2, 1)
	b.claimLarge(3, 2, 2)
	b.claimLarge(5, 3, 3)
	b.claimLarge(8, 1, 4)
	b.claim(9, 5)
	b.claimLarge(12, 2, 6)
	b.place(64, api.Shape{Refs: 2, Data: 101})
	b.place(12*64, api.Shape{Data: 66})
	b.link(64, 1, 64)
	b.pin(64)
	for _, to := range []int{5 * 64, 8 * 64, 9 * 64, 10 * 64, 0, 66, 128, 4 * 64, 3*64 + 2} {
		b.refused("Move of a large object to blocks of another kind", b.h.Move(64, to), api.ErrState)
	}
	b.refused("Move onto another large object", b.h.Move(64, 12*64), api.ErrTaken)
	b.move(64, 64)
	b.same("Move of a large object to the same address")
	b.move(64, 3*64)
	b.same("Move of a large object")
	if b.h.State(1) != api.BlockHead || b.h.State(2) != api.BlockTail || !b.h.Pinned(3*64) {
		t.Errorf("states %d and %d, pinned %t", b.h.State(1), b.h.State(2), b.h.Pinned(3*64))
	}
	b.refused("Release", b.h.Release(3), api.ErrTaken)
	b.do("Release", func(x memory) api.Errno { return x.Release(1) })
	b.same("Release of blocks that a large object left")
}

func TestForwards(t *testing.T) {
	b := newBoth(t, 3)
	b.claim(1, 0)
	b.place(64, api.Shape{})
	_, e := b.h.Forward(64)
	expectError(t, "Forward of an object that was not moved", e, api.ErrNone)
	b.move(64, 70)
	b.move(70, 80) // each move is noted by itself
	b.move(80, 80)
	b.place(64, api.Shape{})
	b.same("three forwards")
	b.kill(80)
	b.place(80, api.Shape{})
	b.same("forwards stay, whatever becomes of the object")
	b.move(64, 90) // instead of the one to 70
	b.same("another object was moved from the same address")
	for from, want := range map[int]int{64: 90, 70: 80, 80: 80} {
		to, e := b.h.Forward(from)
		expectNumber(t, "Forward", to, e, want)
	}
	for _, addr := range append([]int{0, 65, 90, 66, -64}, beyond...) {
		if to, e := b.h.Forward(addr); to != 0 || e != api.ErrNone {
			t.Errorf("Forward(%d) = %d, error %d", addr, to, e)
		}
	}
	b.kill(80)
	b.kill(90)
	b.do("Release", func(x memory) api.Errno { return x.Release(1) })
	b.same("forwards stay after Release")
	if n, want := b.h.Forget(), b.m.Forget(); n != 3 || n != want {
		t.Errorf("Forget = %d", n)
	}
	b.same("Forget")
	if n := b.h.Forget(); n != 0 {
		t.Errorf("a second Forget = %d", n)
	}
}

// P2.6: each word of objects of even and odd numbers of words, and the words around them.
func TestFind(t *testing.T) {
	for data := range 201 {
		s := api.Shape{Refs: data % 16, Data: data}
		b := newBoth(t, 6)
		addr, words := 70, heap.Words(s)
		if words > api.LargeWords {
			addr = 64
			b.claimLarge(1, (words+63)/64, 0)
		} else {
			b.claim(1, 0)
		}
		b.place(addr, s)
		for i := range words {
			at, e := b.h.Find(addr + i)
			expectNumber(t, "Find", at, e, addr)
		}
		for _, other := range append([]int{addr - 1, addr - 2, addr + words, addr + words + 1, 0, 1, -1, -2, 384, 385}, beyond...) {
			if at, e := b.h.Find(other); at != 0 || e != api.ErrNone {
				t.Errorf("Find(%d) = %d, error %d", other, at, e)
			}
		}
	}
}

func TestAtOfNoIdentity(t *testing.T) {
	b := filled(t)
	for _, ident := range append([]int{0, -1, 2, 6, 7, 64}, beyond...) { // 2 was killed
		if addr, e := b.h.At(ident); addr != 0 || e != api.ErrNone {
			t.Errorf("At(%d) = %d, error %d", ident, addr, e)
		}
	}
}

// P2.3: At and Ident are inverse.
func TestAtAndIdentAreInverse(t *testing.T) {
	b := filled(t)
	for _, addr := range b.h.All() {
		ident, e := b.h.Ident(addr)
		expectError(t, "Ident", e, api.OK)
		at, e := b.h.At(ident)
		expectNumber(t, "At of Ident", at, e, addr)
	}
}

func TestPins(t *testing.T) {
	b := newBoth(t, 3)
	b.claim(1, 0)
	b.place(64, api.Shape{})
	b.place(66, api.Shape{Data: 2})
	b.pin(66)
	b.pin(66)
	b.same("an object that was pinned twice")
	if !b.h.Pinned(66) || b.h.Pinned(64) || b.h.Pinned(67) || b.h.Pinned(68) {
		t.Errorf("pinned: %t, %t, %t, %t", b.h.Pinned(66), b.h.Pinned(64), b.h.Pinned(67), b.h.Pinned(68))
	}
	b.move(66, 66)
	b.move(66, 68)
	b.same("a pinned object that was moved")
	b.place(66, api.Shape{}) // where the pinned object was
	b.same("a new object where a pinned one was")
	for range 2 {
		b.do("Unpin", func(x memory) api.Errno { return x.Unpin(68) })
		b.same("Unpin")
	}
	b.move(68, 90)
	b.same("an object that is pinned no more, moved")
}
