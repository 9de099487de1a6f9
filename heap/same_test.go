package heap_test

import (
	"math"
	"slices"
	"testing"

	"dustcart/api"
	"dustcart/heap"
)

// beyond are numbers far outside of all ranges, at which a sum, a difference or a product would overflow.
var beyond = []int{math.MinInt, math.MinInt + 1, math.MinInt / 2, math.MinInt / 64, math.MinInt32, -1 << 16, 1 << 16, math.MaxInt32, math.MaxInt32 + 1, math.MaxInt / 64, math.MaxInt/2 + 1, math.MaxInt - 1, math.MaxInt}

func newHeap(t *testing.T, blocks int) *heap.Heap {
	t.Helper()
	h, e := heap.New(blocks)
	if e != api.OK || h == nil {
		t.Fatalf("New(%d): %v, error %d", blocks, h, e)
	}
	return h
}

// both is a heap and its model: what is done with the one is done with the other.
type both struct {
	t *testing.T
	h *heap.Heap
	m *model
}

func newBoth(t *testing.T, blocks int) both {
	t.Helper()
	return both{t, newHeap(t, blocks), newModel(blocks)}
}

// do does an act with both, which must succeed.
func (b both) do(what string, act func(x memory) api.Errno) {
	b.t.Helper()
	if e := act(b.m); e != api.OK {
		b.t.Fatalf("%s: the test itself is wrong: error %d of the model", what, e)
	}
	if e := act(b.h); e != api.OK {
		b.t.Fatalf("%s: error %d", what, e)
	}
}

func (b both) claim(block, space int) {
	b.t.Helper()
	b.do("Claim", func(x memory) api.Errno { return x.Claim(block, space) })
}

func (b both) claimLarge(block, blocks, space int) {
	b.t.Helper()
	b.do("ClaimLarge", func(x memory) api.Errno { return x.ClaimLarge(block, blocks, space) })
}

// place makes an object without a 0 in its data words, so that words that are not copied, or not cleared, are seen.
func (b both) place(addr int, s api.Shape) {
	b.t.Helper()
	b.do("Place", func(x memory) api.Errno {
		ident, e := x.Place(addr, s)
		if e == api.OK && ident != x.Births() {
			b.t.Errorf("Place(%d, %v): identity %d after %d births", addr, s, ident, x.Births())
		}
		for i := range s.Data {
			x.SetData(addr, i, 1000*ident+i+1)
		}
		return e
	})
}

func (b both) kill(addr int) {
	b.t.Helper()
	b.do("Kill", func(x memory) api.Errno { return x.Kill(addr) })
}

func (b both) move(from, to int) {
	b.t.Helper()
	b.do("Move", func(x memory) api.Errno { return x.Move(from, to) })
}

func (b both) pin(addr int) {
	b.t.Helper()
	b.do("Pin", func(x memory) api.Errno { return x.Pin(addr) })
}

func (b both) link(addr, i, to int) {
	b.t.Helper()
	b.do("SetRef", func(x memory) api.Errno { return x.SetRef(addr, i, to) })
}

// refused expects an error, and that nothing has changed.
func (b both) refused(what string, got, want api.Errno) {
	b.t.Helper()
	if got != want {
		b.t.Errorf("%s: error %d, want %d", what, got, want)
	}
	b.same(what)
}

// same expects that the heap tells just what the model does, of everything.
func (b both) same(what string) {
	b.t.Helper()
	for _, n := range []struct {
		name      string
		got, want int
	}{
		{"Blocks", b.h.Blocks(), b.m.Blocks()},
		{"Births", b.h.Births(), b.m.Births()},
		{"Used", b.h.Used(), b.m.Used()},
	} {
		if n.got != n.want {
			b.t.Fatalf("%s: %s = %d, want %d", what, n.name, n.got, n.want)
		}
	}
	if got, want := b.h.All(), b.m.All(); !slices.Equal(got, want) {
		b.t.Fatalf("%s: All = %v, want %v", what, got, want)
	}
	for block := -1; block <= b.m.Blocks(); block++ {
		b.sameBlock(what, block)
	}
	for addr := -2; addr <= 64*b.m.Blocks()+1; addr++ {
		if got, want := viewOf(b.h, addr), viewOf(b.m, addr); got != want {
			b.t.Fatalf("%s: address %d: %+v, want %+v", what, addr, got, want)
		}
	}
	for _, addr := range b.m.All() {
		b.sameFields(what, addr)
	}
	for ident := -1; ident <= b.m.Births()+1; ident++ {
		got, e := b.h.At(ident)
		if want, err := b.m.At(ident); got != want || e != err {
			b.t.Fatalf("%s: At(%d) = %d, error %d, want %d, %d", what, ident, got, e, want, err)
		}
	}
}

func (b both) sameBlock(what string, block int) {
	b.t.Helper()
	if got, want := [2]int{b.h.State(block), b.h.Space(block)}, [2]int{b.m.State(block), b.m.Space(block)}; got != want {
		b.t.Fatalf("%s: block %d: state and space %v, want %v", what, block, got, want)
	}
	if got, want := b.h.Objects(block), b.m.Objects(block); !slices.Equal(got, want) {
		b.t.Fatalf("%s: Objects(%d) = %v, want %v", what, block, got, want)
	}
	if got, want := b.h.Gaps(block), b.m.Gaps(block); !slices.Equal(got, want) {
		b.t.Fatalf("%s: Gaps(%d) = %v, want %v", what, block, got, want)
	}
	if got, want := b.h.Lines(block), b.m.Lines(block); !slices.Equal(got, want) {
		b.t.Fatalf("%s: Lines(%d) = %v, want %v", what, block, got, want)
	}
}

func (b both) sameFields(what string, addr int) {
	b.t.Helper()
	s, _ := b.m.Shape(addr)
	for i := -1; i <= max(s.Refs, s.Data); i++ {
		got, e := b.h.Ref(addr, i)
		if want, err := b.m.Ref(addr, i); got != want || e != err {
			b.t.Fatalf("%s: Ref(%d, %d) = %d, error %d, want %d, %d", what, addr, i, got, e, want, err)
		}
		got, e = b.h.Data(addr, i)
		if want, err := b.m.Data(addr, i); got != want || e != err {
			b.t.Fatalf("%s: Data(%d, %d) = %d, error %d, want %d, %d", what, addr, i, got, e, want, err)
		}
	}
}

// view is what is told of an address.
type view struct {
	word, owner, ident, forward, ref, data int
	shape                                  api.Shape
	has, pinned                            bool
	errs                                   [7]api.Errno
}

func viewOf(x memory, addr int) view {
	var v view
	v.word, v.errs[0] = x.Word(addr)
	v.owner, v.errs[1] = x.Find(addr)
	v.ident, v.errs[2] = x.Ident(addr)
	v.forward, v.errs[3] = x.Forward(addr)
	v.ref, v.errs[4] = x.Ref(addr, 0)
	v.data, v.errs[5] = x.Data(addr, 0)
	v.shape, v.errs[6] = x.Shape(addr)
	v.has, v.pinned = x.Has(addr), x.Pinned(addr)
	return v
}
