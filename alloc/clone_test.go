package alloc_test

import (
	"testing"

	"dustcart/api"
	"dustcart/heap"
)

// started is an allocator that has all that a state has: words in a hole, and in an area for overflow, gaps before the cursor, and a large object.
func started(t *testing.T, policy int) both {
	t.Helper()
	b := newBoth(t, 12, policy)
	b.claim(2, 5)
	var placed []int
	for _, words := range []int{2, 8, 30, 20, 10, 32, 6, 66, 4, 10} {
		addr, e := b.alloc(sized(words))
		if e != api.OK {
			t.Fatalf("policy %d: the test itself is wrong: error %d", policy, e)
		}
		placed = append(placed, addr)
	}
	b.kill(placed[1])
	b.same("the started allocator")
	return b
}

// P5.8: a clone on a clone of the heap places the same objects at the same addresses.
func TestCloneGoesOnInTheSameWay(t *testing.T) {
	for policy := range policies {
		b := started(t, policy)
		c := b.clone()
		c.same("a clone")
		for _, words := range []int{4, 8, 32, 6, 2, 12, 70, 28, 8} {
			want, e := b.alloc(sized(words))
			if got, err := c.alloc(sized(words)); got != want || err != e {
				t.Errorf("policy %d: %d words: %d, error %d, of the allocator %d, error %d", policy, words, got, err, want, e)
			}
		}
		b.same("the allocator")
		c.same("the clone")
		expectCursor(t, c.a, cursorOf(b.a))
		expectSame(t, "after the same calls", c.h, b.h)
	}
}

// R8: whatever is done with an allocator, its clone stays as it was, and the other way round.
func TestCloneStays(t *testing.T) {
	calls := map[string]func(b both){
		"Alloc of a few words":   func(b both) { b.alloc(sized(4)) },
		"Alloc of more words":    func(b both) { b.alloc(sized(28)) },
		"Alloc of a large one":   func(b both) { b.alloc(sized(70)) },
		"Reset":                  func(b both) { b.reset() },
		"Alloc that was refused": func(b both) { b.alloc(sized(-4)) },
	}
	for policy := range policies {
		for what, call := range calls {
			b := started(t, policy)
			c := b.clone()
			call(b)
			c.same("a clone, after " + what)
			b = started(t, policy)
			call(b.clone())
			b.same("an allocator, after " + what + " of its clone")
		}
	}
}

// A clone on the allocator's own heap has cursors of its own: both use the same words.
func TestCloneOnTheSameHeap(t *testing.T) {
	for policy := range policies {
		b := started(t, policy)
		c := b
		p := *b.p
		c.a, c.p = b.a.Clone(b.h), &p
		c.same("a clone on the same heap")
		b.alloc(sized(8))
		c.same("a clone on the same heap, after an act of the allocator")
		c.alloc(sized(8))
		b.same("the allocator, after an act of its clone on the same heap")
	}
}

// A clone is in the same state on any heap, be it smaller, or an empty one.
func TestCloneOnAnotherHeap(t *testing.T) {
	for policy := range policies {
		for _, blocks := range []int{2, 3, 12, 64} {
			b, on := started(t, policy), newBoth(t, blocks, policy)
			p := *b.p
			p.h = on.twin
			on.a, on.p = b.a.Clone(on.h), &p
			on.same("a clone on another heap")
			expectCursor(t, on.a, cursorOf(b.a))
			for _, words := range []int{2, 10, 32, 2, 66, 8} {
				on.alloc(sized(words))
				on.same("after Alloc on another heap")
			}
			b.same("the allocator")
		}
	}
}

func TestCloneOnNoHeap(t *testing.T) {
	for policy := range policies {
		b := started(t, policy)
		for _, none := range []*heap.Heap{nil, {}, new(heap.Heap)} {
			if b.a.Clone(none) != nil {
				t.Errorf("policy %d: a clone on no heap", policy)
			}
		}
		b.same("after Clone on no heap")
	}
}
