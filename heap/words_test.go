package heap_test

import (
	"math"
	"testing"

	"dustcart/api"
	"dustcart/heap"
)

// P2.7: the words of objects of all kinds, with no, one and many references and data words, even and odd numbers of words.
func TestWordsOfObjects(t *testing.T) {
	for _, kind := range []int{api.Plain, api.Weak, api.Ephemeron, api.Special} {
		for _, refs := range []int{0, 1, 2, 7, 15} {
			for _, data := range []int{0, 1, 2, 15, 16, 17, 199, 200} {
				if s := (api.Shape{Refs: refs, Data: data, Kind: kind}); heap.Valid(s) {
					expectWordsOf(t, s)
				}
			}
		}
	}
}

func expectWordsOf(t *testing.T, s api.Shape) {
	t.Helper()
	b := newBoth(t, 5)
	addr := 64
	if words := heap.Words(s); words > api.LargeWords {
		b.claimLarge(1, (words+63)/64, 0)
	} else {
		b.claim(1, 0)
		b.place(64, api.Shape{Data: 1}) // so that the identity is another one than 1
		addr = 76
	}
	b.place(addr, s)
	ident, _ := b.h.Ident(addr)
	want := []int{ident, s.Refs + 16*s.Data + 4096*s.Kind}
	for i := range s.Refs {
		if i%2 == 0 {
			b.link(addr, i, addr)
		}
		want = append(want, addr*(1-i%2))
	}
	for i := range s.Data {
		v := -7 * i
		b.do("SetData", func(x memory) api.Errno { return x.SetData(addr, i, v) })
		want = append(want, v)
	}
	if len(want)%2 == 1 {
		want = append(want, 0)
	}
	for i, v := range want {
		w, e := b.h.Word(addr + i)
		expectNumber(t, "Word", w, e, v)
	}
	if got, e := b.h.Shape(addr); got != s || e != api.OK {
		t.Errorf("Shape = %v, error %d, want %v", got, e, s)
	}
	b.same("words")
}

func TestNewObjectsHoldNothing(t *testing.T) {
	b := newBoth(t, 4)
	b.claim(1, 0)
	b.claimLarge(2, 2, 0)
	for addr, s := range map[int]api.Shape{64: {Refs: 4, Data: 5}, 128: {Refs: 2, Data: 90}} {
		b.do("Place", func(x memory) api.Errno { _, e := x.Place(addr, s); return e })
		for i := range s.Refs {
			v, e := b.h.Ref(addr, i)
			expectNumber(t, "Ref of a new object", v, e, 0)
		}
		for i := range s.Data {
			v, e := b.h.Data(addr, i)
			expectNumber(t, "Data of a new object", v, e, 0)
		}
	}
	b.same("new objects")
}

// Data words hold any numbers.
func TestDataWordsHoldAnything(t *testing.T) {
	b := newBoth(t, 3)
	b.claim(1, 0)
	b.place(64, api.Shape{Refs: 1, Data: 3})
	for _, v := range append([]int{0, 1, -1, 64}, beyond...) {
		for i := range 3 {
			b.do("SetData", func(x memory) api.Errno { return x.SetData(64, i, v) })
			b.same("SetData")
			got, e := b.h.Data(64, i)
			expectNumber(t, "Data", got, e, v)
		}
	}
}

func TestSetRef(t *testing.T) {
	b := newBoth(t, 5)
	b.claim(1, 0)
	b.claimLarge(3, 2, 0)
	b.place(64, api.Shape{Refs: 3, Data: 1})
	b.place(70, api.Shape{Refs: 1})
	b.place(192, api.Shape{Refs: 15, Data: 100})
	for _, addr := range []int{64, 70, 192} {
		s, _ := b.h.Shape(addr)
		for i := range s.Refs {
			for _, to := range []int{64, 70, 192, addr, 0, 70} {
				b.link(addr, i, to)
				got, e := b.h.Ref(addr, i)
				expectNumber(t, "Ref", got, e, to)
			}
			b.same("SetRef")
		}
	}
	for _, to := range append([]int{1, -1, -64, 62, 65, 66, 68, 71, 72, 74, 128, 193, 194, 256, 320}, beyond...) {
		for _, addr := range []int{64, 70, 192} {
			b.refused("SetRef to no object", b.h.SetRef(addr, 0, to), api.ErrArg)
		}
	}
	b.kill(70)
	b.refused("SetRef to an object that was killed", b.h.SetRef(64, 0, 70), api.ErrArg)
	b.same("references to an object that was killed stay as they are")
}

func TestFieldsThatAreNone(t *testing.T) {
	b := newBoth(t, 3)
	b.claim(1, 0)
	shapes := map[int]api.Shape{64: {}, 70: {Refs: 2}, 80: {Data: 2}, 90: {Refs: 2, Data: 5}, 110: {Refs: 15, Data: 1}}
	for addr := 64; addr < 128; addr++ { // in the order of addresses, so that identities are the same each time
		if s, ok := shapes[addr]; ok {
			b.place(addr, s)
		}
	}
	for addr, s := range shapes {
		for _, i := range append([]int{-1, -2, s.Refs, s.Refs + 1, 15, 16}, beyond...) {
			if i >= 0 && i < s.Refs {
				continue
			}
			v, e := b.h.Ref(addr, i)
			if v != 0 || e != api.ErrArg {
				t.Errorf("%v: Ref(%d) = %d, error %d", s, i, v, e)
			}
			b.refused("SetRef of no reference", b.h.SetRef(addr, i, 0), api.ErrArg)
			b.refused("SetRef of no reference to no object", b.h.SetRef(addr, i, 65), api.ErrArg)
		}
		for _, i := range append([]int{-1, -2, s.Data, s.Data + 1, 200, 201}, beyond...) {
			v, e := b.h.Data(addr, i)
			if v != 0 || e != api.ErrArg {
				t.Errorf("%v: Data(%d) = %d, error %d", s, i, v, e)
			}
			b.refused("SetData of no data word", b.h.SetData(addr, i, 5), api.ErrArg)
		}
	}
}

// ErrNone is ahead of ErrArg: whatever the index is, if there is no object.
func TestObjectsThatAreNone(t *testing.T) {
	b := filled(t)
	for _, addr := range append([]int{0, -1, -2, -64, 1, 62, 63, 65, 66, 67, 72 + 2, 96, 80, 126, 128, 258, 320, 575, 576, 578}, beyond...) {
		if b.h.Has(addr) || b.h.Pinned(addr) {
			t.Errorf("Has(%d) %t, Pinned %t", addr, b.h.Has(addr), b.h.Pinned(addr))
		}
		for _, i := range append([]int{-1, 0, 1, 16, 201}, beyond...) {
			for _, e := range []api.Errno{refErr(b.h, addr, i), dataErr(b.h, addr, i), b.h.SetRef(addr, i, 0), b.h.SetRef(addr, i, 65), b.h.SetData(addr, i, 1)} {
				expectError(t, "a field of no object", e, api.ErrNone)
			}
		}
		for _, e := range []api.Errno{identErr(b.h, addr), shapeErr(b.h, addr), b.h.Kill(addr), b.h.Pin(addr), b.h.Unpin(addr)} {
			expectError(t, "an act on no object", e, api.ErrNone)
		}
	}
	b.same("after acts on no objects")
}

// refErr and those below return the error of a call, or ErrFull, which no call returns, if another result is not 0.
func refErr(x memory, addr, i int) api.Errno {
	v, e := x.Ref(addr, i)
	return alone(v, e)
}

func dataErr(x memory, addr, i int) api.Errno {
	v, e := x.Data(addr, i)
	return alone(v, e)
}

func identErr(x memory, addr int) api.Errno {
	v, e := x.Ident(addr)
	return alone(v, e)
}

func shapeErr(x memory, addr int) api.Errno {
	s, e := x.Shape(addr)
	if s != (api.Shape{}) {
		return api.ErrFull
	}
	return e
}

func alone(v int, e api.Errno) api.Errno {
	if v != 0 {
		return api.ErrFull
	}
	return e
}

// Words of gaps, of large blocks without an object, behind the end of a large object, and of blocks that are not used hold 0.
func TestWordsOfNoObject(t *testing.T) {
	b := newBoth(t, 6)
	b.claim(1, 0)
	b.claimLarge(2, 2, 0)
	b.place(64, api.Shape{Data: 30})
	b.place(128, api.Shape{Data: 120})
	b.same("with objects")
	b.kill(64)
	b.kill(128)
	b.same("without objects")
	for _, block := range []int{1, 2} {
		b.do("Release", func(x memory) api.Errno { return x.Release(block) })
	}
	for addr := range 6 * 64 {
		w, e := b.h.Word(addr)
		expectNumber(t, "Word", w, e, 0)
	}
}

func TestWordsThatAreNone(t *testing.T) {
	for _, blocks := range []int{2, 5, api.MaxBlocks} {
		h := newHeap(t, blocks)
		for _, addr := range append([]int{-1, -2, -64, 64 * blocks, 64*blocks + 1, 64*blocks + 64}, beyond...) {
			if w, e := h.Word(addr); w != 0 || e != api.ErrArg {
				t.Errorf("%d blocks: Word(%d) = %d, error %d", blocks, addr, w, e)
			}
			expectError(t, "Poke of no word", h.Poke(addr, 1), api.ErrArg)
		}
	}
}

// Poke changes just references and data words, of objects of odd and even numbers of words, to any numbers.
func TestPoke(t *testing.T) {
	for _, s := range []api.Shape{{}, {Refs: 1}, {Data: 1}, {Refs: 2, Data: 1}, {Refs: 2, Data: 2}, {Refs: 15, Data: 14}, {Refs: 3, Data: 90}, {Refs: 15, Data: 200}} {
		b := newBoth(t, 6)
		b.claim(1, 0)
		b.claimLarge(2, max(1, (heap.Words(s)+63)/64), 0)
		addr := 70
		if heap.Words(s) > api.LargeWords {
			addr = 128
		}
		b.place(addr, s)
		for i := -3; i < heap.Words(s)+3; i++ {
			if i < 2 || i >= 2+s.Refs+s.Data {
				b.refused("Poke of a word that is no field", b.h.Poke(addr+i, 5), api.ErrNone)
				continue
			}
			v := []int{math.MinInt, math.MaxInt, -1, 65, 0}[i%5]
			b.do("Poke", func(x memory) api.Errno { return x.Poke(addr+i, v) })
			w, e := b.h.Word(addr + i)
			expectNumber(t, "Word", w, e, v)
		}
		b.same("Poke")
	}
}

func TestPokeOfNoObject(t *testing.T) {
	b := filled(t)
	for _, addr := range []int{0, 1, 63, 81, 96, 98, 127, 128, 190, 448, 512, 575} {
		b.refused("Poke of a word of no object", b.h.Poke(addr, 1), api.ErrNone)
	}
}
