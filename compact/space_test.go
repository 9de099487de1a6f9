package compact_test

import (
	"testing"

	"dustcart/api"
)

// threeRows makes objects in the spaces 0, 2 and 6, of which others are not kept, with blocks that become empty, and a large object.
func threeRows(t *testing.T) world {
	t.Helper()
	w := newWorld(t, 12, 1)
	w.claim(0, 1, 7)
	w.claim(2, 2, 5, 8)
	w.claim(6, 3, 6)
	w.put(256, words34) // block 4, not kept
	w.put(64, words2)
	w.put(448, words6)
	w.put(512, words32)
	w.put(194, words4)
	w.put(384, words6)
	w.keep(words20, 70, 460)
	w.keep(words32, 130, 340)
	w.keep(words6, 200, 400)
	return w
}

// Space frees everywhere, and moves in one space only.
func TestOneSpace(t *testing.T) {
	for space, want := range [][]api.Move{
		moves(70, 64, 460, 84),
		nil,
		moves(130, 128, 340, 160),
		nil, nil, nil,
		moves(200, 192, 400, 198),
		nil,
	} {
		w := threeRows(t)
		words := 0
		for _, m := range want {
			words += w.words(m.From)
		}
		w.collects(space, api.Report{Kept: 6, KeptWords: 116, Freed: 6, FreedWords: 84, Moved: len(want), MovedWords: words, Scanned: 6}, want...)
		states := []int{1, 1, 1, 0, 1, 1, 1, 0, 0, 0, 0}
		switch space {
		case 0:
			states[6] = 0
		case 2:
			states[4] = 0
		case 6:
			states[5] = 0
		}
		w.states(states...)
	}
}

// Space behind a Collect moves nothing; Collect behind a Space moves what is left, and so does the Space of another space.
func TestSpaceAndCollect(t *testing.T) {
	w := threeRows(t)
	c := w.clone()
	w.collects(2, api.Report{Kept: 6, KeptWords: 116, Freed: 6, FreedWords: 84, Moved: 2, MovedWords: 64, Scanned: 6}, moves(130, 128, 340, 160)...)
	d := w.clone()
	w.collects(everywhere, slid(6, 116, 4, 52), moves(70, 64, 460, 84, 200, 192, 400, 198)...)
	c.collects(everywhere, api.Report{Kept: 6, KeptWords: 116, Freed: 6, FreedWords: 84, Moved: 6, MovedWords: 116, Scanned: 6},
		moves(70, 64, 460, 84, 130, 128, 340, 160, 200, 192, 400, 198)...)
	w.as(c, "after Space and Collect, held against Collect")
	for space := range api.MaxSpaces {
		c.again(space)
	}
	d.collects(6, slid(6, 116, 2, 12), moves(200, 192, 400, 198)...)
	d.collects(0, slid(6, 116, 2, 40), moves(70, 64, 460, 84)...)
	d.as(c, "after all Spaces, held against Collect")
}

// A block of the row that only what is not kept was in is used by what slides; but Space of another space releases it before.
func TestBlockThatBecomesEmpty(t *testing.T) {
	w := newWorld(t, 5, 1)
	w.put(64, words6)
	w.claim(0, 2)
	w.keep(words2, 128)
	w.keep(words4, 200)
	x := api.Report{Kept: 2, KeptWords: 6, Freed: 1, FreedWords: 6, Scanned: 2}
	other := w.clone()
	other.collects(0, x)
	other.states(0, 1, 1, 0)
	other.collects(home, slid(2, 6, 1, 4), moves(200, 192)...)
	x.Moved, x.MovedWords = 1, 4
	w.collects(home, x, moves(200, 64)...)
	w.states(1, 1, 0, 0)
}

// Pinned objects are in the way of their own space alone.
func TestSpaceWithPinned(t *testing.T) {
	w := newWorld(t, 6, 1)
	w.claim(3, 1, 4)
	w.claim(4, 2, 3)
	w.keep(words4, 68, 140)
	w.pin(68, 140)
	w.keep(words6, 280, 200)
	three, four := w.clone(), w.clone()
	three.collects(3, slid(4, 20, 1, 6), moves(280, 72)...)
	three.states(1, 1, 1, 0, 0)
	four.collects(4, slid(4, 20, 1, 6), moves(200, 128)...)
	four.states(1, 1, 0, 1, 0)
	w.collects(0, slid(4, 20, 0, 0))
}
