package alloc_test

import (
	"testing"

	"dustcart/api"
)

func TestBumpUpToTheLimit(t *testing.T) {
	b := newBoth(t, 4, Bump)
	b.place(32, 64)
	b.place(32, 96)
	b.cursor(128, 128, 0, 0)
	b.place(2, 128)
	b.cursor(130, 192, 0, 0)
	b.place(30, 130)
	b.place(30, 160)
	b.cursor(190, 192, 0, 0)
	b.place(4, 192) // two words are too few
	b.cursor(196, 256, 0, 0)
	b.place(28, 196)
	b.place(32, 224)
	b.refused(sized(2), api.ErrFull)
	b.cursor(256, 256, 0, 0)
}

// Words that are left are lost once a block is begun, but a block is not begun if there is none.
func TestBumpLosesWhatIsLeft(t *testing.T) {
	b := newBoth(t, 3, Bump)
	b.place(32, 64)
	b.place(2, 96)
	b.place(32, 128)
	b.place(26, 160)
	b.refused(sized(8), api.ErrFull)
	b.cursor(186, 192, 0, 0)
	b.place(6, 186)
	b.refused(sized(2), api.ErrFull)
}

// P5.3: no gap is used but the one at the cursor: neither one before it, nor one of another block of the space, nor one behind the limit.
func TestBumpUsesNoGaps(t *testing.T) {
	b := newBoth(t, 6, Bump)
	b.claim(2, 1, 3)
	b.place(8, 128)
	b.place(8, 136)
	b.kill(128)
	b.place(8, 144)
	b.kill(136, 144)
	b.place(32, 152)
	b.place(32, 256)
	b.kill(152)
	b.place(32, 288)
	b.release(2)
	b.place(2, 128)
}

// After Reset a block is begun, whatever is left in the last one.
func TestBumpAfterReset(t *testing.T) {
	b := newBoth(t, 5, Bump)
	b.reset()
	b.place(2, 64)
	b.reset()
	b.place(2, 128)
	b.kill(64, 128)
	b.release(1)
	b.reset()
	b.reset()
	b.place(2, 64)
	b.place(2, 66)
}

// P5.3: addresses rise within a block, and are never below the cursor of before, or in a block that was not free when it was begun.
func TestBumpRises(t *testing.T) {
	b, d, last := newBoth(t, 12, Bump), dice(3), 0
	for range 400 {
		if b.step(&d, false) == "Reset" {
			last = 0
		}
		before := b.clone()
		addr, e := b.alloc(sized(2 + 2*d.next(16)))
		if e != api.OK {
			continue
		}
		if addr/64 == last/64 && addr < cursorOf(before.a)[0] {
			t.Fatalf("%d lies before the cursor %d", addr, cursorOf(before.a)[0])
		}
		if begins := addr != cursorOf(before.a)[0]; begins && (addr%64 != 0 || before.h.State(addr/64) != api.BlockFree) {
			t.Fatalf("%d is neither the cursor %d nor the beginning of a free block", addr, cursorOf(before.a)[0])
		}
		last = addr
	}
}
