package compact_test

import (
	"slices"
	"testing"

	"dustcart/api"
	"dustcart/compact"
)

// Example 1, and the same with what c leaves for d being just enough, a word less, and more.
func TestExample(t *testing.T) {
	for _, x := range []struct{ data, words, to int }{
		{18, 20, 86},
		{10, 12, 68}, // d just fits before c
		{9, 12, 68},
		{8, 10, 68},
		{11, 14, 86}, // it is a word longer
		{12, 14, 86},
	} {
		w := newWorld(t, 4, 1)
		w.put(64, words6)
		w.keep(words4, 70)
		w.keep(words6, 80)
		w.keep(api.Shape{Data: x.data}, 100)
		w.pin(80)
		w.plans(w.marks(), moves(70, 64, 100, x.to)...)
		want := slid(3, 10+x.words, 2, 4+x.words)
		want.Freed, want.FreedWords = 1, 6
		w.collects(everywhere, want, moves(70, 64, 100, x.to)...)
		w.leads(slot(0, 0), 64)
		w.leads(slot(0, 1), 80)
		w.leads(slot(0, 2), x.to)
		if !w.h.Pinned(80) || w.h.Pinned(64) || w.h.Pinned(x.to) {
			t.Errorf("what is pinned is changed")
		}
	}
}

// No object, no place that is not empty.
func TestNothing(t *testing.T) {
	for _, blocks := range []int{2, 5, api.MaxBlocks} {
		for mutators := 1; mutators <= api.MaxMutators; mutators++ {
			w := newWorld(t, blocks, mutators)
			before := w.state()
			w.plans(w.table())
			w.wastes(0)
			w.collects(everywhere, api.Report{})
			for space := range api.MaxSpaces {
				w.collects(space, api.Report{})
			}
			w.unchanged("after collections of nothing", before)
		}
	}
}

// Without roots nothing is kept, and all blocks are free.
func TestWithoutRoots(t *testing.T) {
	w := newWorld(t, 9, 3)
	w.put(64, words32)
	w.put(96, words32)
	w.put(190, words2)
	w.put(192, words218)
	w.claim(2, 8)
	w.put(448, words2)
	w.node(512, api.Plain, 448)
	w.refs(512, 512)
	w.pin(448, 192)
	for _, space := range []int{everywhere, 0, 2, home, 7} {
		c := w.clone()
		c.collects(space, api.Report{Freed: 6, FreedWords: 290})
		c.has()
		c.states(0, 0, 0, 0, 0, 0, 0, 0)
		c.spaces(0, 0, 0, 0, 0, 0, 0, 0)
	}
}

// What is together already is not moved, whatever is behind it.
func TestTogether(t *testing.T) {
	w := newWorld(t, 5, 1)
	w.keep(words32, 64, 96, 128)
	w.keep(words20, 160)
	w.keep(words20, 192)
	w.put(212, words4)
	before := w.clone()
	before.ok("Kill", before.h.Kill(212))
	w.collects(everywhere, api.Report{Kept: 5, KeptWords: 136, Freed: 1, FreedWords: 4, Scanned: 5})
	w.as(before, "after Collect of what is together")
}

// An object that just fills what is left of a block of the row, one that is a word longer, and one that is shorter; what is left behind is not used later.
func TestEndOfBlock(t *testing.T) {
	for _, x := range []struct{ data, words, to, next int }{
		{18, 20, 108, 192},
		{19, 22, 192, 214},
		{20, 22, 192, 214},
		{17, 20, 108, 192},
		{16, 18, 108, 192},
		{14, 16, 108, 124},
	} {
		w := newWorld(t, 6, 1)
		w.put(64, words2)
		w.keep(words32, 66)
		w.keep(api.Shape{Data: 10}, 98) // 12 words
		w.keep(api.Shape{Data: x.data}, 192)
		w.keep(words4, 230)
		want := slid(4, 48+x.words, 3, 48)
		want.Freed, want.FreedWords = 1, 2
		list := moves(66, 64, 98, 96)
		if x.to != 192 {
			want.Moved, want.MovedWords = 4, 48+x.words
			list = append(list, api.Move{From: 192, To: x.to})
		}
		list = append(list, api.Move{From: 230, To: x.next})
		w.collects(everywhere, want, list...)
		states := []int{api.BlockUsed, api.BlockFree, api.BlockFree, api.BlockFree, api.BlockFree}
		if x.next >= 192 {
			states[2] = api.BlockUsed
		}
		w.states(states...)
	}
}

// A row whose blocks are not neighbours: blocks of other spaces, free ones, and such of large objects are between; no word of these is used.
func TestFarBlocks(t *testing.T) {
	w := newWorld(t, 14, 1)
	w.claim(3, 2, 5, 9, 12)
	w.claim(1, 4, 11)
	w.keep(words34, 192)              // block 3
	w.keep(api.Shape{Data: 100}, 384) // blocks 6 and 7
	w.keep(words20, 140)              // block 2
	w.keep(words32, 350)              // block 5
	w.keep(words20, 600)              // block 9
	w.keep(words32, 770)              // block 12
	w.keep(words6, 802, 810)          // block 12
	w.keep(words32, 280)              // block 4
	w.keep(words32, 720)              // block 11
	w.put(832, words32)               // block 13, not kept
	w.ok("Retag", w.h.Retag(13, 3))   // it is the last one of the row
	w.plans(w.marks(), moves(280, 256, 720, 288, 140, 128, 350, 148, 600, 320, 770, 340, 802, 372, 810, 378)...)
	w.collects(everywhere, api.Report{Kept: 10, KeptWords: 316, Freed: 1, FreedWords: 32, Moved: 8, MovedWords: 180, Scanned: 10},
		moves(280, 256, 720, 288, 140, 128, 350, 148, 600, 320, 770, 340, 802, 372, 810, 378)...)
	w.states(0, 1, 2, 1, 1, 2, 3, 0, 0, 0, 0, 0, 0)
	w.spaces(0, 3, home, 1, 3, home, home, 0, 0, 0, 0, 0, 0)
}

// Several pinned objects in a block: one at its beginning, one at its end, some in between, with gaps of several sizes.
func TestSeveralPinned(t *testing.T) {
	w := newWorld(t, 5, 1)
	w.keep(words4, 64) // at the beginning
	w.keep(words2, 74) // behind a gap of 6 words
	w.keep(words6, 76) // next to it
	w.keep(words6, 92) // behind a gap of 10 words
	w.keep(words2, 126)
	w.pin(64, 74, 76, 92, 126)
	w.keep(words6, 100)             // to 68: it fills the gap
	w.keep(words2, 106)             // to 82
	w.keep(api.Shape{Data: 7}, 108) // of 10 words: to 98, as only 8 are left before 92
	w.keep(words2, 120)             // to 108
	w.keep(words20, 140)            // to 128, as only 16 words are left before 126
	w.keep(words2, 180)             // to 148, and not to 110
	w.collects(everywhere, slid(11, 62, 6, 42), moves(100, 68, 106, 82, 108, 98, 120, 108, 140, 128, 180, 148)...)
	w.has(64, 68, 74, 76, 82, 92, 98, 108, 126, 128, 148)
	for _, addr := range []int{64, 74, 76, 92, 126} {
		if !w.h.Pinned(addr) {
			t.Errorf("%d is not pinned", addr)
		}
	}
	w.wastes(24) // 84 to 92, and 110 to 126
}

// Objects that just fill the gaps before, between and behind pinned objects, and such that are a word longer.
func TestGapsAroundPinned(t *testing.T) {
	for _, x := range []struct {
		data, words int
		to          []int
	}{
		{7, 10, []int{64, 76, 90}}, // what is left fits in the block
		{8, 10, []int{64, 76, 90}},
		{9, 12, []int{76, 90, 102}},
		{10, 12, []int{76, 90, 102}},
		{11, 14, []int{90, 104, 128}},
		{12, 14, []int{90, 104, 128}},
		{13, 16, []int{90, 106, 128}},
		{28, 30, []int{90, 128, 158}},
		{29, 32, []int{90, 128, 160}},
		{30, 32, []int{90, 128, 160}},
	} {
		w := newWorld(t, 5, 1)
		w.keep(words2, 74)
		w.keep(words2, 88)
		w.keep(words2, 122) // behind a gap of 32 words
		w.pin(74, 88, 122)
		want := []api.Move{}
		for i, from := range []int{192, 224, 256} {
			w.keep(api.Shape{Data: x.data}, from)
			want = append(want, api.Move{From: from, To: x.to[i]})
		}
		w.claim(home, 2)
		w.collects(everywhere, slid(6, 6+3*x.words, 3, 3*x.words), want...)
	}
}

// Pinned objects that fill a block, and a pinned one that leaves too little on both sides: the next block of the row is used.
func TestPinnedFillsBlock(t *testing.T) {
	w := newWorld(t, 7, 1)
	w.keep(words32, 64, 96) // block 1 is full
	w.keep(words32, 144)    // block 2: 16 words are left on both sides
	w.keep(words4, 192)     // block 3: 60 are left
	w.pin(64, 96, 144, 192)
	w.keep(words20, 220, 300)
	w.keep(words2, 330)
	w.keep(words32, 350, 384)
	w.collects(everywhere, slid(9, 206, 5, 106), moves(220, 196, 300, 216, 330, 236, 350, 256, 384, 288)...)
	w.states(1, 1, 1, 1, 0, 0)
	w.wastes(50) // 32 of block 2, and 18 of block 3
}

// Pinned objects of other spaces, and such that are not kept, are in nobody's way; large ones are not, either.
func TestNotInTheWay(t *testing.T) {
	w := newWorld(t, 8, 1)
	w.put(64, words4)
	w.pin(64)
	w.put(80, words20)
	w.pin(80)
	w.keep(words20, 106)
	w.keep(words34, 128)
	w.pin(128)
	w.claim(0, 3)
	w.keep(words2, 192)
	w.pin(192)
	w.keep(words2, 200)
	w.put(256, words34) // not kept
	w.pin(256)
	w.keep(words6, 320)
	w.collects(everywhere, api.Report{Kept: 5, KeptWords: 64, Freed: 3, FreedWords: 58, Moved: 3, MovedWords: 28, Scanned: 5},
		moves(200, 194, 106, 64, 320, 84)...)
	w.states(1, 2, 1, 0, 0, 0, 0)
}

// Large objects, kept and not, pinned and not: they stay where they are, with their tails, or all their blocks are released; of 32 words an object is not large.
func TestLarge(t *testing.T) {
	w := newWorld(t, 20, 1)
	w.put(64, words218)                       // blocks 1 to 4
	w.keep(words34, 320)                      // block 5
	w.keep(words218, 384)                     // blocks 6 to 9
	w.put(640, words34)                       // block 10
	w.keep(api.Shape{Refs: 2, Data: 70}, 704) // blocks 11 and 12
	w.refs(704, 384, 704)
	w.put(832, words2) // block 13
	w.keep(words32, 840)
	w.pin(320, 64)
	w.collects(everywhere, api.Report{Kept: 4, KeptWords: 358, Freed: 3, FreedWords: 254, Moved: 1, MovedWords: 32, Scanned: 4}, moves(840, 832)...)
	w.states(0, 0, 0, 0, 2, 2, 3, 3, 3, 0, 2, 3, 1, 0, 0, 0, 0, 0, 0)
	w.at(5, 704, 384, 704)
}

// Used and head blocks without objects are released: such as had none before, such that only what was not kept was in, and such that all was moved out of.
func TestEmptyBlocks(t *testing.T) {
	w := newWorld(t, 20, 1)
	w.claim(2, 1) // one that is before the others of its space, and is used
	w.claim(4, 2) // one that has none
	w.ok("ClaimLarge", w.h.ClaimLarge(3, 1, 1))
	w.ok("ClaimLarge", w.h.ClaimLarge(4, 3, 2))
	w.put(448, words2)
	w.ok("Kill", w.h.Kill(448))
	w.put(512, words218) // blocks 8 to 11, not kept
	w.claim(2, 12, 13, 14)
	w.keep(words4, 768)
	w.put(780, words6)
	w.pin(w.put(832, words2)) // block 13: pinned, and not kept
	w.keep(words2, 900)       // block 14: pinned, and kept
	w.pin(900)
	w.put(960, api.Shape{Refs: 9}) // block 15, not kept
	w.collects(everywhere, api.Report{Kept: 2, KeptWords: 6, Freed: 4, FreedWords: 238, Moved: 1, MovedWords: 4, Scanned: 2}, moves(768, 64)...)
	w.states(1, 0, 0, 0, 0, 0, 0, 0, 0, 0, 0, 0, 0, 1, 0, 0, 0, 0, 0)
	w.spaces(2, 0, 0, 0, 0, 0, 0, 0, 0, 0, 0, 0, 0, 2, 0, 0, 0, 0, 0)
}

// Every space, and objects in all of them: each slides within its own row, and moves are in the order of the spaces.
func TestSpaces(t *testing.T) {
	w := newWorld(t, 30, 1)
	var want []api.Move
	for space := range api.MaxSpaces {
		low, high := 1+(5*space+3)%8, 10+(3*space+1)%8 // in other orders than that of the spaces
		w.claim(space, low, high)
		w.keep(words32, 64*low+4)
		w.put(64*high, words20)
		w.keep(words20, 64*high+20)
		want = append(want, moves(64*low+4, 64*low, 64*high+20, 64*low+32)...)
	}
	w.plans(w.marks(), want...)
	c := w.clone()
	c.collects(everywhere, api.Report{Kept: 16, KeptWords: 416, Freed: 8, FreedWords: 160, Moved: 16, MovedWords: 416, Scanned: 16}, want...)
	for i, m := range want {
		c.leads(slot(0, i), m.To)
	}
	c.states(1, 1, 1, 1, 1, 1, 1, 1, 0, 0, 0, 0, 0, 0, 0, 0, 0, 0)
	for space := range api.MaxSpaces {
		c := w.clone()
		c.collects(space, api.Report{Kept: 16, KeptWords: 416, Freed: 8, FreedWords: 160, Moved: 2, MovedWords: 52, Scanned: 16}, want[2*space:2*space+2]...)
		c.leads(slot(0, 2*space), want[2*space].To)
		c.leads(slot(0, 2*space+1), want[2*space+1].To)
		other := (space + 3) % 8
		c.leads(slot(0, 2*other), want[2*other].From)
		c.leads(slot(0, 2*other+1), want[2*other+1].From)
	}
}

// References and places are changed at once: an address that an object leaves may be that which another one gets.
func TestAllAtOnce(t *testing.T) {
	w := newWorld(t, 4, 2)
	w.put(64, words6)
	for i, from := range []int{70, 76, 82, 88} {
		w.put(from, api.Shape{Refs: 4})
		w.set(slot(1, i), from)
		w.push(from)
		w.set(global(i), from)
	}
	for _, from := range []int{70, 76, 82, 88} {
		w.refs(from, 70, 76, 82, 88)
	}
	w.collects(everywhere, api.Report{Kept: 4, KeptWords: 24, Freed: 1, FreedWords: 6, Moved: 4, MovedWords: 24, Scanned: 4}, moves(70, 64, 76, 70, 82, 76, 88, 82)...)
	for i, to := range []int{64, 70, 76, 82} {
		w.at(2+i, to, 64, 70, 76, 82)
		w.leads(slot(1, i), to)
		w.leads(global(i), to)
		w.leads(queued(i), to)
	}
}

// An address in several places and references, also of what does not move, and of objects of other spaces.
func TestSameAddress(t *testing.T) {
	w := newWorld(t, 8, 4)
	w.put(64, words2)
	x := w.put(66, words4)
	fixed := w.node(80, api.Special, x, x, 0, x)
	w.pin(fixed)
	w.claim(0, 3)
	other := w.node(192, api.Plain, x, fixed, x)
	large := w.put(256, api.Shape{Refs: 15, Data: 40})
	w.refs(large, x, other, x, fixed, large, 0, 0, 0, 0, 0, 0, 0, 0, 0, x)
	places := []api.Place{slot(0, 0), slot(0, 15), slot(1, 3), slot(3, 15), global(0), global(15), queued(0), queued(2), queued(3)}
	w.push(x, other, x, x)
	for _, p := range places {
		w.set(p, x)
	}
	w.set(slot(2, 2), fixed)
	w.set(slot(2, 3), large)
	w.collects(everywhere, api.Report{Kept: 4, KeptWords: 74, Freed: 1, FreedWords: 2, Moved: 1, MovedWords: 4, Scanned: 4}, moves(66, 64)...)
	for _, p := range places {
		w.leads(p, 64)
	}
	w.leads(slot(2, 2), fixed)
	w.leads(slot(2, 3), large)
	w.leads(queued(1), other)
	w.leads(slot(0, 1), 0)
	w.leads(global(7), 0)
	w.at(3, 80, 64, 64, 0, 64)
	w.at(4, 192, 64, 80, 64)
	w.at(5, 256, 64, 192, 64, 80, 256, 0, 0, 0, 0, 0, 0, 0, 0, 0, 64)
	if n := len(w.r.Places()); n != len(places)+3 {
		t.Errorf("%d places are not empty", n)
	}
}

// Moves of several spaces do not rise by their addresses; all places are changed nevertheless.
func TestRowsThatCross(t *testing.T) {
	w := newWorld(t, 8, 1)
	w.claim(4, 1, 5)
	w.claim(2, 3)
	w.claim(0, 4, 6)
	for _, addr := range []int{400, 330, 260, 200, 70} {
		w.keep(words6, addr)
	}
	w.collects(everywhere, slid(5, 30, 5, 30), moves(260, 256, 400, 262, 200, 192, 70, 64, 330, 70)...)
	for i, to := range []int{262, 70, 256, 192, 64} {
		w.leads(slot(0, i), to)
	}
}

// Forwards of all moves are noted, those of before stay, unless they are from the same address, and none of these changes a reference.
func TestForwards(t *testing.T) {
	w := newWorld(t, 8, 1)
	w.keep(words4, 70, 74)
	w.keep(words2, 90)
	w.put(128, words2)
	w.ok("Move", w.h.Move(128, 130))
	w.ok("Move", w.h.Move(90, 100))
	w.ok("Move", w.h.Move(100, 90)) // a forward from 90, and one from 100
	w.pin(90)
	w.node(140, api.Plain, 90, 74)
	w.also(140)
	w.collects(everywhere, api.Report{Kept: 4, KeptWords: 14, Freed: 1, FreedWords: 2, Moved: 3, MovedWords: 12, Scanned: 4}, moves(70, 64, 74, 68, 140, 72)...)
	w.at(5, 72, 90, 68)
	forwards := func(want map[int]int) {
		t.Helper()
		for addr := range 64 * 8 {
			to, e := w.h.Forward(addr)
			if to != want[addr] || (e == api.OK) != (want[addr] != 0) {
				t.Errorf("Forward(%d): %d, error %d, want %d", addr, to, e, want[addr])
			}
		}
	}
	forwards(map[int]int{70: 64, 74: 68, 140: 72, 128: 130, 90: 100, 100: 90})
	w.set(slot(0, 1), 0)
	w.refs(72, 90, 0)
	w.put(74+4, words2)
	w.h.Unpin(90)
	w.collects(everywhere, api.Report{Kept: 3, KeptWords: 10, Freed: 2, FreedWords: 6, Moved: 2, MovedWords: 6, Scanned: 3}, moves(72, 68, 90, 72)...)
	forwards(map[int]int{70: 64, 74: 68, 140: 72, 128: 130, 90: 72, 100: 90, 72: 68})
	w.at(5, 68, 72, 0)
	if n := w.h.Forget(); n != 7 {
		t.Errorf("%d forwards", n)
	}
}

// Identities, shapes and data words stay, whatever the address is; also if data words look like addresses.
func TestDataWords(t *testing.T) {
	w := newWorld(t, 8, 1)
	words := func(addr int) []int {
		s := w.shape(addr)
		list := []int{s.Refs, s.Data, s.Kind}
		for i := range s.Data {
			v, e := w.h.Data(addr, i)
			w.ok("Data", e)
			list = append(list, v)
		}
		return list
	}
	want := map[int][]int{}
	for i := range 12 {
		addr := w.put(66+64*(i/4)+15*(i%4)/2*2, api.Shape{Refs: i % 3, Data: 7 + i%4, Kind: api.Special * (i % 2)})
		for j := range 7 + i%4 {
			w.ok("SetData", w.h.SetData(addr, j, []int{addr, -j, 66, 1 << 50}[(i+j)%4]))
		}
		if i%3 > 0 {
			w.refs(addr, 66)
		}
		w.set(slot(0, i), addr)
		want[i+1] = words(addr)
	}
	x, _ := w.collect(everywhere)
	if x.Kept != 12 || x.Moved != 12 {
		t.Errorf("the test itself is wrong: %+v", x)
	}
	for ident := 1; ident <= 12; ident++ {
		addr, _ := w.h.At(ident)
		if got := words(addr); !slices.Equal(got, want[ident]) {
			t.Errorf("object %d at %d: %v, want %v", ident, addr, got, want[ident])
		}
		if to, _ := w.h.Ref(addr, 0); ident%3 != 1 && to != 64 {
			t.Errorf("object %d leads to %d", ident, to)
		}
		w.leads(slot(0, ident-1), addr)
	}
}

// R5 and R6: results are new memory, and the same on a heap and its clone.
func TestResultsAreNew(t *testing.T) {
	w := newWorld(t, 5, 1)
	w.keep(words6, 70, 80, 140)
	c := w.clone()
	x, list, _ := compact.Collect(w.h, w.r)
	kept := slices.Clone(list)
	y, other, _ := compact.Collect(c.h, c.r)
	if x != y || !slices.Equal(list, other) || len(list) != 3 {
		t.Errorf("Collect of a clone: %+v, %v, want %+v, %v", y, other, x, list)
	}
	w.as(c, "after Collect of a clone")
	clear(list)
	w.as(c, "after a change of a result")
	if !slices.Equal(other, kept) {
		t.Errorf("two results share memory")
	}
	w.again(everywhere)
}

// The greatest heap, half of whose objects go; then all but one, and the last one.
func TestGreatestHeap(t *testing.T) {
	w := newWorld(t, api.MaxBlocks, 1)
	objects, last := 0, 0
	for addr := 64; addr < 4096; addr += 4 {
		w.put(addr, api.Shape{Refs: 2})
		if addr%8 == 4 {
			w.refs(addr, last)
			last = addr
			objects++
		}
	}
	w.also(last)
	x, list := w.collect(everywhere)
	if x.Kept != objects || x.Freed != objects || x.Moved != objects || list[0] != (api.Move{From: 68, To: 64}) || list[objects-1] != (api.Move{From: last, To: 60 + 4*objects}) {
		t.Errorf("%+v, %v is moved first", x, list[0])
	}
	w.again(everywhere)
	w.wastes(0)
	w.refs(60+4*objects, 0)
	x, list = w.collect(everywhere)
	if x.Kept != 1 || !slices.Equal(list, moves(60+4*objects, 64)) {
		t.Errorf("%+v, %v", x, list)
	}
	w.set(slot(0, 0), 0)
	w.collects(everywhere, api.Report{Freed: 1, FreedWords: 4})
	w.has()
}
