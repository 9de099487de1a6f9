package sweep_test

import (
	"testing"

	"dustcart/api"
	"dustcart/heap"
	"dustcart/sweep"
)

// A clone goes on in the same way, and neither changes the other (P8.8, R8).
func TestClone(t *testing.T) {
	w := layout(t)
	s := w.sweeper(70, 128, 480)
	w.sweeps(s, 2, 6)
	w.put(82, words4)
	w.born(s, api.OK, 82)
	c := w.clone()
	k := s.Clone(c.h)
	if k == nil {
		t.Fatalf("Clone: nil")
	}
	c.left(k, 1, 3, 7, 8, 9)
	before := c.state()
	w.born(s, api.OK, 64)
	w.sweeps(s, 3, 162)
	w.sweeps(s, 1, 6)
	c.unchanged("after sweeping of the heap that it was cloned from", before)
	c.left(k, 1, 3, 7, 8, 9)
	c.born(k, api.OK, 76)
	c.sweeps(k, 1, 6)
	c.needs(k, 40, 3)
	w.left(s, 7, 8, 9)
	w.finishes(s, 32+34)
	c.finishes(k, 32+34)
	w.has(64, 70, 82, 128, 480)
	c.has(70, 76, 82, 128, 480)
}

// The same calls return the same, whenever the clone is made.
func TestCloneGoesOn(t *testing.T) {
	calls := func(w world, s *sweep.Sweeper, from, end int) string {
		told := ""
		for i := from; i < end; i++ {
			switch i {
			case 0, 3:
				n, e := s.Need(20 + 10*i)
				told += line(n, " ", e, ";")
			case 1, 2:
				n, e := s.Block(i)
				told += line(n, " ", e, ";")
			case 4:
				told += line(s.Born(64), s.Born(480), s.Born(514), ";")
			case 5:
				n, e := s.Finish()
				told += line(n, " ", e, ";")
			}
			told += line(s.Left(), w.h.All(), ";")
		}
		return told
	}
	for at := range 6 {
		w := layout(t)
		s := w.sweeper(128, 192, 512)
		calls(w, s, 0, at)
		c := w.clone()
		k := s.Clone(c.h)
		again := c.clone()
		l := k.Clone(again.h)
		want := calls(w, s, at, 6)
		if got := calls(c, k, at, 6); got != want {
			t.Errorf("a clone made after %d calls: %s, want %s", at, got, want)
		}
		if got := calls(again, l, at, 6); got != want {
			t.Errorf("a clone of a clone made after %d calls: %s, want %s", at, got, want)
		}
		c.as(w, "a clone")
		again.as(w, "a clone of a clone")
	}
}

// A clone on the same heap: both sweep it.
func TestCloneOnTheSameHeap(t *testing.T) {
	w := layout(t)
	s := w.sweeper(70)
	k := s.Clone(w.h)
	w.sweeps(s, 1, 12)
	w.left(k, 1, 2, 3, 7, 8, 9)
	w.sweeps(k, 1, 0)
	w.finishes(k, 12+162+64+34)
	w.left(s, 2, 3, 7, 8, 9)
	w.finishes(s, 0)
	w.has(70)
}

// A clone on no heap is none.
func TestCloneOnNone(t *testing.T) {
	w := layout(t)
	s := w.sweeper(70)
	for _, h := range []*heap.Heap{nil, {}} {
		if s.Clone(h) != nil {
			t.Errorf("a clone on no heap")
		}
	}
	w.left(s, 1, 2, 3, 7, 8, 9)
	w.sweeps(s, 1, 12)
}

// A clone on a heap that has other blocks keeps its marks and what is left: blocks that are not there have nothing to be done.
func TestCloneOnAnotherHeap(t *testing.T) {
	for _, blocks := range []int{2, 3, 11, 40, api.MaxBlocks} {
		s := layout(t).sweeper(70, 128, 480)
		w := newWorld(t, blocks, 1)
		w.put(64, words2)
		w.put(70, words2)
		last := w.put(64*blocks-2, words2)
		k := s.Clone(w.h)
		if k == nil {
			t.Fatalf("Clone on a heap of %d blocks: nil", blocks)
		}
		w.left(k, 1, 2, 3, 7, 8, 9)
		w.born(k, api.OK, last)
		w.born(k, api.ErrNone, 64*blocks, 128, 480)
		w.sweeps(k, 1, 2)
		w.sweeps(k, 3, 0)
		w.finishes(k, 0)
		w.has(70, last)
	}
}
