package alloc_test

import (
	"fmt"
	"testing"

	"dustcart/api"
	"dustcart/heap"
)

// dice are numbers in a fixed order that looks like none.
type dice uint32

func (d *dice) next(n int) int {
	*d = *d*1664525 + 1013904223
	return int(*d>>12) % n
}

// among returns one of some numbers.
func (d *dice) among(list ...int) int {
	return list[d.next(len(list))]
}

func (d *dice) shape() api.Shape {
	s := api.Shape{Refs: d.among(0, 0, 1, 2, 3, 5, 15), Data: d.among(0, 1, 2, 4, 6, 6, 7, 8, 14, 15, 28, 30), Kind: d.next(4)}
	switch d.next(30) {
	case 0:
		s.Refs = d.among(-1, 16)
	case 1, 2:
		s.Data = d.among(50, 75, 110, 150, 200)
	case 3, 4, 5, 6, 7, 8:
		s = sized(d.among(2, 2, 4, 6, 8, 8, 10))
	}
	return s
}

// spot returns an even address, often one of the cursors.
func (d *dice) spot(b both) int {
	if at := b.p.at[d.among(0, 0, 2)]; at > 0 && d.next(2) == 0 {
		return at
	}
	return 2 * d.next(32*b.h.Blocks())
}

// somebody lets somebody else do something with the heap, if that can be done: what it was.
func (b both) somebody(d *dice) string {
	block, spot, space := d.next(b.h.Blocks()), d.spot(b), d.among(2, 2, 5)
	acts := map[string]func(h *heap.Heap) api.Errno{
		"Claim":   func(h *heap.Heap) api.Errno { return h.Claim(block, space) },
		"Release": func(h *heap.Heap) api.Errno { return h.Release(block) },
		"Retag":   func(h *heap.Heap) api.Errno { return h.Retag(block, space) },
		"Place": func(h *heap.Heap) api.Errno {
			_, e := h.Place(spot, sized(4))
			return e
		},
	}
	what := []string{"Claim", "Release", "Retag", "Place", "Release"}[d.next(5)]
	e := acts[what](b.h)
	if acts[what](b.twin) != e {
		b.t.Fatalf("%s: the test itself is wrong", what)
	}
	return fmt.Sprint(what, " ", e == api.OK)
}

// collect kills objects and releases blocks as a collection might, after which some allocators are reset.
func (b both) collect(d *dice) string {
	survivors := d.among(0, 1, 2, 3, 6)
	for _, addr := range b.h.All() {
		if d.next(8) >= survivors {
			b.kill(addr)
		}
	}
	for block := range b.h.Blocks() {
		if state := b.h.State(block); (state == api.BlockUsed || state == api.BlockHead) && len(b.h.Objects(block)) == 0 {
			b.release(block)
		}
	}
	if d.next(4) == 0 {
		return "Collect"
	}
	b.reset()
	return "Reset"
}

// step does one act, and compares all: what it was, and whether it succeeded.
func (b both) step(d *dice, strangers bool) string {
	b.t.Helper()
	what, all := "", b.h.All()
	switch n := d.next(100); {
	case strangers && n < 25:
		what = b.somebody(d)
	case n < 40 && len(all) > 0:
		b.kill(all[d.next(len(all))])
		what = "Kill"
	case n < 45:
		what = b.collect(d)
	default:
		_, e := b.alloc(d.shape())
		what = fmt.Sprint("Alloc ", int(e))
	}
	b.same(what)
	return what
}

// P5.1 to P5.7: long runs of acts, with and without somebody else on the heap, held against the plain allocator after each one.
func TestActsAgainstThePlainAllocator(t *testing.T) {
	for policy := range policies {
		tally := map[string]int{}
		for _, blocks := range []int{2, 3, 5, 9, 14} {
			for _, strangers := range []bool{false, true} {
				b, d := newBoth(t, blocks, policy), dice(blocks)
				for range 1200 {
					tally[b.step(&d, strangers)]++
				}
			}
		}
		for _, often := range []string{"Alloc 0", "Alloc 2", "Alloc 6", "Kill", "Collect", "Reset", "Claim true", "Release true", "Retag true", "Place true"} {
			if tally[often] < 10 {
				t.Errorf("the test itself is idle: policy %d: %s occurred %d times", policy, often, tally[often])
			}
		}
	}
}

// Two allocators of any policies on one heap, for the same space and for two.
func TestActsOfTwoAllocators(t *testing.T) {
	for policy := range policies {
		for another := range policies {
			for _, space := range []int{2, 7} {
				b, d := newBoth(t, 9, policy), dice(10*policy+another)
				c := b.other(space, another)
				for range 200 {
					b.step(&d, false)
					c.same("after an act of another allocator")
					c.step(&d, false)
					b.same("after an act of another allocator")
				}
			}
		}
	}
}

// P5.8: an allocator and its clone go on in the same way, and neither changes the other, or the other's heap.
func TestClonesGoOnAlone(t *testing.T) {
	for policy := range policies {
		first, d := newBoth(t, 9, policy), dice(77+policy)
		for range 30 {
			for range 20 {
				first.step(&d, true)
			}
			second := first.clone()
			second.same("a new clone")
			again := d
			for range 20 {
				first.step(&d, true)
			}
			second.same("a clone, after acts of the allocator")
			for range 20 {
				second.step(&again, true)
			}
			expectCursor(t, second.a, cursorOf(first.a))
			expectSame(t, "after the same acts", second.h, first.h)
			for range 10 {
				second.step(&d, true)
			}
			first.same("the allocator, after acts of its clone")
			if d.next(2) == 0 {
				first = second
			}
		}
	}
}
