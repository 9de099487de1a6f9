package alloc_test

import (
	"testing"

	"dustcart/api"
)

// lined claims a block of the allocator's space, with an object in each of some lines.
func (b both) lined(block int, lines ...int) {
	b.t.Helper()
	b.claim(2, block)
	for _, line := range lines {
		b.put(64*block+8*line, 2)
	}
}

// Holes at the beginning, in the middle and at the end of blocks, one after the other; a block without a hole, and one of another space between them; then a block that is begun.
func TestHoles(t *testing.T) {
	b := newBoth(t, 8, Lines)
	b.lined(1, 2, 3, 6)
	b.lined(2, 0, 1, 2, 3, 4, 5, 6, 7)
	b.claim(3, 3)
	b.lined(4, 0, 2)
	b.lined(5)
	for _, hole := range [][]int{{64, 80}, {96, 112}, {120, 128}, {264, 272}, {280, 320}, {320, 384}, {384, 448}, {448, 512}} {
		for addr := hole[0]; addr < hole[1]; addr += 8 {
			b.place(8, addr)
			b.cursor(addr+8, hole[1], 0, 0)
		}
	}
	b.refused(sized(8), api.ErrFull)
	b.refused(sized(2), api.ErrFull)
}

// A line is occupied by any word of an object, so an object over the end of a line occupies two.
func TestHolesBesideObjects(t *testing.T) {
	b := newBoth(t, 3, Lines)
	b.claim(2, 1)
	b.put(70, 4)  // lines 0 and 1
	b.put(94, 2)  // the last words of line 3
	b.put(104, 8) // all words of line 5
	b.put(112, 2)
	for _, addr := range []int{80, 84, 96, 100, 120, 124, 128} {
		b.place(4, addr)
	}
}

// Objects that do not fit into the rest of a hole: those of up to LineWords words take the next hole, and the rest is lost.
func TestObjectsOfLineWords(t *testing.T) {
	b := newBoth(t, 4, Lines)
	b.lined(1, 1, 3, 4, 5, 6)
	b.place(2, 64)
	b.place(8, 80) // six words were left
	b.cursor(88, 88, 0, 0)
	b.place(8, 120)
	b.place(6, 128)
	b.kill(64)
	b.place(8, 134)
	b.cursor(142, 192, 0, 0)
}

// Objects of two more words, and of up to the most, are placed at the cursor if they fit there, and otherwise in the area for overflow.
func TestObjectsOfMoreThanALine(t *testing.T) {
	b := newBoth(t, 6, Lines)
	b.lined(1, 2, 5)
	b.place(2, 64)
	b.place(10, 66)
	b.cursor(76, 80, 0, 0)
	b.place(10, 128) // four words were left, and the next hole has 16, but is not taken for it
	b.cursor(76, 80, 138, 192)
	b.place(4, 76)
	b.place(10, 138)
	b.place(2, 88)
	b.place(14, 90)
	b.cursor(104, 104, 148, 192)
	b.place(10, 148)
	b.place(32, 158)
	b.place(4, 112)
	b.place(10, 116)
	b.place(10, 192) // two words are left in the area for overflow
	b.cursor(126, 128, 202, 256)
	b.place(2, 126)
}

// The first object of all, and the first one after Reset, begins an area for overflow if it has more than LineWords words.
func TestOverflowAtFirst(t *testing.T) {
	b := newBoth(t, 5, Lines)
	b.claim(2, 1)
	b.place(10, 128)
	b.cursor(0, 0, 138, 192)
	b.place(22, 138)
	b.place(32, 160)
	b.cursor(0, 0, 192, 192)
	b.place(10, 192)
	b.cursor(0, 0, 202, 256)
	b.place(8, 64)
	b.cursor(72, 128, 202, 256)
	b.reset()
	b.place(10, 256)
	b.refused(sized(60), api.ErrFull)
	b.cursor(0, 0, 266, 320)
}

// What is left of the area for overflow is a hole like others, once it is reached, as far as its lines are not occupied.
func TestAreaForOverflowBecomesAHole(t *testing.T) {
	b := newBoth(t, 4, Lines)
	b.lined(1, 1, 2, 3, 4, 5, 6, 7)
	b.place(2, 64)
	b.place(10, 128)
	b.place(6, 66)
	b.place(2, 144) // line 1 of block 2 is occupied by the object of ten words
	b.cursor(146, 192, 138, 192)
	b.place(32, 146)
	b.place(8, 178)
	b.place(6, 186)
	b.cursor(192, 192, 138, 192)
	if b.h.State(3) != api.BlockFree {
		t.Errorf("block 3 is claimed")
	}
	b.place(2, 192)
}

// A block that was begun for overflow, and lies before the limit, is no hole's block until Reset.
func TestAreaForOverflowBeforeTheLimit(t *testing.T) {
	b := newBoth(t, 5, Lines)
	b.lined(2, 0)
	b.place(2, 136)
	b.place(32, 138)
	b.place(32, 64)
	b.place(10, 170)
	b.place(10, 180)
	b.place(10, 96)
	b.cursor(190, 192, 106, 128)
	b.place(2, 190)
	b.place(8, 192)
	b.cursor(200, 256, 106, 128)
	b.reset()
	b.place(8, 112)
}

// Words of the area for overflow that a hole has taken are no gap any more: objects that would be placed there cannot be placed, others of more words than are left begin a block.
func TestHoleInTheAreaForOverflow(t *testing.T) {
	b := newBoth(t, 5, Lines)
	b.place(30, 64)
	b.place(8, 96)
	b.cursor(104, 128, 94, 128)
	b.refused(sized(26), api.ErrFull)
	b.refused(sized(32), api.ErrFull)
	b.place(10, 104)
	b.place(2, 114)
	b.refused(sized(14), api.ErrFull)
	b.place(8, 116)
	b.place(2, 124)
	b.kill(96)
	b.place(10, 94)
	b.refused(sized(10), api.ErrFull)
	b.cursor(126, 128, 104, 128)
	b.place(26, 128)
	b.cursor(126, 128, 154, 192)
	b.reset()
	b.place(10, 192)
}

// Holes are those of the moment in which one is looked for; a hole that begins before the limit is not taken.
func TestHolesThatChange(t *testing.T) {
	b := newBoth(t, 4, Lines)
	b.lined(1, 1, 3, 5, 6, 7)
	b.place(8, 64)
	b.kill(72)     // the line behind the limit
	b.place(8, 72) // it is a hole of two lines with the next one, which begins at the limit
	b.cursor(80, 88, 0, 0)
	b.kill(88, 72)
	b.place(8, 80)
	b.place(2, 88)
	b.cursor(90, 104, 0, 0)
	b.kill(80, 88, 104)
	b.place(6, 90)
	b.kill(90)
	b.place(8, 96)
	b.kill(96)      // now lines 1 to 5 are a hole that begins before the limit
	b.place(8, 128) // the limit is at line 5
	b.reset()
	b.place(8, 72)
	b.cursor(80, 112, 0, 0)
}

// P5.4: objects of at most a line need two lines at most, none of which was occupied before the hole was taken.
func TestObjectsInHoles(t *testing.T) {
	b, d := newBoth(t, 10, Lines), dice(8)
	taken, placed := b.h, 0
	for range 3000 {
		if all := b.h.All(); len(all) > 0 && d.next(2) == 0 {
			b.kill(all[d.next(len(all))])
		}
		if d.next(50) == 0 {
			b.collect(&d)
		}
		words, at, before := d.among(2, 4, 6, 8, 8, 10, 20, 32), cursorOf(b.a), b.h.Clone()
		addr, e := b.alloc(sized(words))
		if e != api.OK || words > 8 {
			continue
		}
		if at[1]-at[0] < words {
			taken = before
		}
		first, last := addr/8, (addr+words-1)/8
		for line := first; line <= last; line++ {
			if lines := taken.Lines(line / 8); lines != nil && lines[line%8] || last > first+1 {
				t.Fatalf("%d words at %d: line %d", words, addr, line)
			}
		}
		placed++
	}
	if placed < 500 {
		t.Errorf("the test itself is idle: %d objects were placed", placed)
	}
}
