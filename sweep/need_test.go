package sweep_test

import (
	"testing"

	"dustcart/api"
)

// shelves is a heap whose blocks have, after a sweep that frees nothing marked, these greatest gaps: 1: 2 words, 2: none (large, kept), 4: 10, 5: free (nothing in it is marked), 6: 32, 7: none, 8: free (large, not kept). The marked objects are the ones returned.
func shelves(t *testing.T) (world, []int) {
	w := newWorld(t, 10, 1)
	marked := []int{w.put(64, words32), w.put(98, words22), w.put(120, words8), w.put(128, words102), w.put(256, words22), w.put(288, words22), w.put(310, words2), w.put(416, words32), w.put(448, words32), w.put(480, words32)}
	w.put(96, words2)
	w.put(278, words6)
	w.put(284, words4)
	w.put(320, words32)
	w.put(384, words32)
	w.put(512, words34)
	return w, marked
}

// The blocks that Need sweeps, for any number of words.
func TestNeed(t *testing.T) {
	for words := 1; words <= api.BlockWords; words++ {
		w, marked := shelves(t)
		s := w.sweeper(marked...)
		w.left(s, 1, 2, 4, 5, 6, 7, 8)
		want := []int{5, 8}
		switch {
		case words <= 2:
			want = []int{1, 4, 5, 6, 8}
		case words <= 10:
			want = []int{4, 5, 6, 8}
		case words <= 32:
			want = []int{5, 6, 8}
		}
		for _, block := range want {
			w.needs(s, words, block)
			left := s.Left()
			if len(left) > 0 && left[0] <= block {
				t.Errorf("Need(%d): %d, but left are %v", words, block, left)
			}
		}
		w.left(s)
		w.refusesNeed(s, api.ErrNone, 1, words, 64)
		w.has(64, 98, 120, 128, 256, 288, 310, 416, 448, 480)
	}
}

// Blocks behind the one that is returned are left as they were.
func TestNeedSweepsNoMore(t *testing.T) {
	w, marked := shelves(t)
	s := w.sweeper(marked...)
	before := w.blockState(5, 6, 7, 8, 9)
	w.needs(s, 10, 4)
	if got := w.blockState(5, 6, 7, 8, 9); line(got) != line(before) {
		t.Errorf("blocks behind are changed")
	}
	w.left(s, 5, 6, 7, 8)
	before = w.blockState(1, 2, 3, 4, 7, 8, 9)
	w.needs(s, 64, 5)
	w.needs(s, 30, 6)
	if got := w.blockState(1, 2, 3, 4, 7, 8, 9); line(got) != line(before) {
		t.Errorf("other blocks are changed")
	}
	w.left(s, 7, 8)
}

// The last block is returned if none has room, whether something was freed in it or not.
func TestNeedLast(t *testing.T) {
	for _, marked := range [][]int{{64, 96, 128, 160}, {64, 160}} {
		w := newWorld(t, 4, 1)
		for _, addr := range []int{64, 96, 128, 160} {
			w.put(addr, words32)
		}
		s := w.sweeper(marked...)
		w.needs(s, 33, 2)
		w.left(s)
		w.refusesNeed(s, api.ErrNone, 33, 1)
		w.has(marked...)
	}
	w := newWorld(t, 4, 1)
	w.put(64, words102)
	s := w.sweeper(64)
	w.needs(s, 1, 1)
	w.refusesNeed(s, api.ErrNone, 1)
}

// Gaps that were there before count, too; gaps that do not touch are not added; blocks that were swept before do not count.
func TestNeedGaps(t *testing.T) {
	w := newWorld(t, 6, 1)
	w.put(64, words2) // followed by 62 words
	w.put(138, words22)
	w.put(170, words22) // gaps of 10 words, in all
	w.put(192, words2)
	w.put(256, words2)
	s := w.sweeper(64, 138, 170, 192, 256)
	w.needs(s, 62, 1)
	w.needs(s, 11, 3)
	w.left(s, 4)
	w.needs(s, 63, 4)
	w.refusesNeed(s, api.ErrNone, 1)
}

// Objects that are freed join gaps before and behind them.
func TestNeedJoinedGaps(t *testing.T) {
	for words := 1; words <= 64; words++ {
		w := newWorld(t, 4, 1)
		w.put(64, words22)
		w.put(90, words6)
		w.put(100, words6)
		w.put(120, words8)
		w.put(128, words2)
		want := 1
		if words > 34 { // from 86 to 119
			want = 2
		}
		w.needs(w.sweeper(64, 120), words, want)
	}
}

// Blocks that were released or claimed meanwhile.
func TestNeedMeanwhile(t *testing.T) {
	w, marked := shelves(t)
	s := w.sweeper(marked...)
	w.vacate(2)
	w.needs(s, 64, 2) // it is free
	w.left(s, 4, 5, 6, 7, 8)
	w.vacate(5)
	w.vacate(6)
	w.put(320, words102) // block 6 is a tail now
	w.born(s, api.OK, 320)
	w.put(128, words2) // block 2 is not left any more
	w.needs(s, 63, 8)
	w.left(s)
	if w.h.State(5) != api.BlockHead || w.h.State(6) != api.BlockTail || !w.h.Has(320) || !w.h.Has(128) {
		t.Errorf("what was claimed meanwhile is gone: there are %v", w.h.All())
	}
}

// Need between Blocks.
func TestNeedBetweenBlocks(t *testing.T) {
	w, marked := shelves(t)
	s := w.sweeper(marked...)
	w.sweeps(s, 5, 32)
	w.sweeps(s, 1, 2)
	w.needs(s, 33, 8)
	w.left(s)
	w, marked = shelves(t)
	s = w.sweeper(marked...)
	w.sweeps(s, 8, 34)
	w.needs(s, 40, 5)
	w.needs(s, 40, 7)
	w.left(s)
}

// ErrArg for words that are none, ahead of ErrNone.
func TestNeedWrongWords(t *testing.T) {
	w, marked := shelves(t)
	s := w.sweeper(marked...)
	wrong := append([]int{0, -1, -2, -64, 65, 66, 128, 640}, beyond...)
	w.refusesNeed(s, api.ErrArg, wrong...)
	w.finishes(s, 2+6+4+32+32+34)
	w.refusesNeed(s, api.ErrArg, wrong...)
	w.refusesNeed(s, api.ErrNone, 1, 2, 32, 63, 64)
}
