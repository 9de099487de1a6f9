package sweep_test

import (
	"testing"

	"dustcart/api"
)

// Objects that are placed in blocks that are left, reported and not.
func TestBornInBlocksLeft(t *testing.T) {
	w := layout(t)
	s := w.sweeper(70)
	told, untold := w.put(82, words4), w.put(86, words4)
	w.put(140, words2)
	w.put(142, words2)
	w.put(576, words2)
	w.born(s, api.OK, told, 142, 576)
	w.sweeps(s, 1, 12+4)
	w.sweeps(s, 2, 12+2)
	w.sweeps(s, 9, 0)
	w.finishes(s, 162+64+34)
	w.has(70, told, 142, 576)
	if w.h.Has(untold) {
		t.Errorf("an object that was not reported is there")
	}
}

// Objects that are placed in other blocks are not killed, reported or not: these blocks are not swept.
func TestBornInOtherBlocks(t *testing.T) {
	w := layout(t)
	s := w.sweeper(70, 448)
	w.put(384, words2) // a block that is claimed
	w.put(386, words2)
	w.put(640, words34)
	w.sweeps(s, 7, 32)
	w.put(480, words4) // a block that was swept
	w.put(484, words4)
	w.sweeps(s, 8, 34)
	w.put(512, words4) // one that was swept and released
	w.put(516, words4)
	w.born(s, api.OK, 386, 484, 516)
	w.finishes(s, 12+12+162)
	w.has(70, 384, 386, 448, 480, 484, 512, 516, 640)
}

// A large object, for which a head that is left was released and claimed again.
func TestBornLarge(t *testing.T) {
	for _, told := range []bool{true, false} {
		w := layout(t)
		s := w.sweeper()
		w.vacate(3)
		w.vacate(8)
		w.put(192, words102)
		w.put(512, words34)
		if told {
			w.born(s, api.OK, 192, 512)
			w.finishes(s, 18+12+64)
			w.has(192, 512)
			continue
		}
		w.finishes(s, 18+12+64+102+34)
		w.has()
	}
}

// An object that was there before is marked, too; marking twice, or what is marked, changes nothing.
func TestBornOfOthers(t *testing.T) {
	w := layout(t)
	s := w.sweeper(70)
	w.born(s, api.OK, 64, 64, 70, 192, 480, 448)
	w.finishes(s, 6+12+34)
	w.has(64, 70, 192, 448, 480)
	w.born(s, api.OK, 64, 192) // nothing is left
}

// No object has such an address.
func TestBornNowhere(t *testing.T) {
	w := layout(t)
	s := w.sweeper()
	nowhere := append([]int{0, 2, 62, 63, 65, 66, 68, 69, 71, 82, 126, 127, 194, 256, 320, 384, 450, 576, 640, 702, 703, 704, 706, 4096, 8192, -1, -2, -64, -128}, beyond...)
	w.born(s, api.ErrNone, nowhere...)
	w.put(66+16, words4)
	w.put(384, words2)
	w.put(576, words2)
	w.born(s, api.OK, 384) // an entry was marked for none of these before it was there
	w.finishes(s, 18+4+12+162+64+34+2)
	w.has(384)
	w.born(s, api.ErrNone, nowhere[:4]...)
	w.born(s, api.ErrNone, 64, 70, 448, 512)
}

// P8.6, with every pair of words of a block: what is reported is not killed, what is not is.
func TestBornEverywhere(t *testing.T) {
	for addr := 66; addr < 126; addr += 2 {
		w := newWorld(t, 3, 1)
		w.put(64, words2)
		w.put(126, words2)
		s := w.sweeper(126)
		for at := 66; at < 126; at += 2 {
			w.put(at, words2)
		}
		w.born(s, api.OK, addr)
		w.needs(s, 1, 1)
		w.has(addr, 126)
	}
}
