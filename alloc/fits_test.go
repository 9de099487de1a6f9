package alloc_test

import (
	"testing"

	"dustcart/api"
)

func run(start, size int) api.Run { return api.Run{Start: start, Size: size} }

// gappy is a heap with gaps of 6, 10 and 8 words in block 1, and of 8, 6 and 6 in block 3; block 2 is of another space, block 4 is free.
func gappy(t *testing.T, policy int) both {
	t.Helper()
	b := newBoth(t, 5, policy)
	b.gaps(1, 2, run(64, 6), run(80, 10), run(120, 8))
	b.gaps(2, 3, run(128, 2), run(140, 52))
	b.gaps(3, 2, run(192, 8), run(210, 6), run(250, 6))
	return b
}

// P5.2: gaps that are just large enough, too small by two words, and equally large; the last gap, and then a new block.
func TestGapsOfEachSize(t *testing.T) {
	for words, want := range map[int][policies]int{
		2:  {First: 64, Best: 64, Next: 64},
		6:  {First: 64, Best: 64, Next: 64},
		8:  {First: 80, Best: 120, Next: 80},
		10: {First: 80, Best: 80, Next: 80},
		12: {First: 256, Best: 256, Next: 256},
		32: {First: 256, Best: 256, Next: 256},
	} {
		for policy := First; policy <= Next; policy++ {
			b := gappy(t, policy)
			b.place(words, want[policy])
			if begun := b.h.State(4) == api.BlockUsed; begun != (words > 10) {
				t.Errorf("policy %d, %d words: state of block 4: %d", policy, words, b.h.State(4))
			}
		}
	}
}

func TestFirstFillsFromTheLowest(t *testing.T) {
	b := gappy(t, First)
	for _, addr := range []int{64, 80, 120, 192, 210, 250, 256} {
		b.place(6, addr)
	}
	b.place(4, 86)
	b.place(2, 126)
	b.place(2, 198)
	b.place(2, 262)
	b.kill(66 + 4) // what lies behind a gap that is filled
	b.place(2, 70)
}

func TestBestFillsTheSmallest(t *testing.T) {
	b := gappy(t, Best)
	for _, addr := range []int{64, 210, 250, 120, 192, 80, 256} {
		b.place(6, addr)
	}
	b.place(2, 126)
	b.place(2, 198)
	b.place(4, 86)
	b.place(2, 262)
}

// A gap that is as large as a block is smaller for Best than none.
func TestBestTakesAWholeBlock(t *testing.T) {
	for _, words := range []int{2, 32} {
		b := newBoth(t, 4, Best)
		b.claim(2, 2, 3)
		b.place(words, 128)
		b.release(3)
		b.place(words, 128+words)
	}
}

func TestNextGoesOn(t *testing.T) {
	b := gappy(t, Next)
	for _, x := range []struct{ words, addr int }{{6, 64}, {6, 80}, {4, 86}, {8, 120}, {8, 192}, {6, 210}} {
		b.place(x.words, x.addr)
		b.cursor(x.addr+x.words, 0, 0, 0)
	}
	b.kill(64)
	b.place(4, 250) // before the cursor there is a gap, too
	b.place(4, 64)
	b.place(2, 68)
	b.place(2, 254)
	b.cursor(256, 0, 0, 0)
	b.place(2, 256) // a new block, since all gaps are filled
}

// A gap that the cursor is in has only the words from there on, and all of them once none is found behind it.
func TestNextWithinAGap(t *testing.T) {
	for _, x := range []struct{ words, addr int }{{2, 106}, {20, 106}, {22, 106}, {24, 72}, {32, 72}} {
		b := newBoth(t, 4, Next)
		b.gaps(1, 2, run(72, 56))
		b.place(32, 72)
		b.place(2, 104)
		b.kill(72, 104)
		b.cursor(106, 0, 0, 0)
		b.place(x.words, x.addr)
		b.cursor(x.addr+x.words, 0, 0, 0)
	}
}

// Behind the cursor is ahead of before it, however far away it is, and a gap is ahead of a new block.
func TestNextOverBlocks(t *testing.T) {
	b := newBoth(t, 6, Next)
	b.gaps(3, 2, run(210, 10))
	b.place(6, 210)
	b.gaps(1, 2, run(64, 8))
	b.gaps(5, 2, run(320, 2), run(376, 8))
	b.place(6, 376)
	b.place(6, 64)
	b.place(4, 216)
	b.place(4, 128)
	b.place(2, 132)
	b.kill(64)
	b.reset()
	b.place(2, 64)
}

// P5.2: random gaps, and which of them is chosen, looked at by the gaps of the heap.
func TestNoBetterGap(t *testing.T) {
	for _, policy := range []int{First, Best} {
		d := dice(5)
		b := newBoth(t, 6, policy)
		filled := 0
		for range 1500 {
			if all := b.h.All(); len(all) > 0 && d.next(2) == 0 {
				b.kill(all[d.next(len(all))])
			}
			words := 2 + 2*d.next(16)
			before := b.clone()
			addr, e := b.alloc(sized(words))
			for block := range b.h.Blocks() {
				for _, gap := range before.h.Gaps(block) {
					lower, smaller := gap.Start < addr || e != api.OK, gap.Size < sizeAt(before, addr)
					if gap.Size >= words && (policy == First && lower || policy == Best && smaller) {
						t.Fatalf("policy %d: %d words at %d, error %d; gap %v", policy, words, addr, e, gap)
					}
				}
			}
			if e == api.OK && before.h.State(addr/64) == api.BlockUsed {
				filled++
			}
		}
		if filled < 200 {
			t.Errorf("the test itself is idle: %d gaps were filled", filled)
		}
	}
}

// sizeAt returns the words of the gap that begins at an address; more than any gap has, if there is none.
func sizeAt(b both, addr int) int {
	for _, gap := range b.h.Gaps(addr / 64) {
		if gap.Start == addr {
			return gap.Size
		}
	}
	return 65
}
