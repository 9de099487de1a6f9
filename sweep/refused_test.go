package sweep_test

import (
	"testing"

	"dustcart/api"
	"dustcart/heap"
	"dustcart/roots"
	"dustcart/side"
	"dustcart/sweep"
)

// refusesCollect checks that Collect returns an error, and changes nothing.
func (w world) refusesCollect(what string, want api.Errno) {
	w.t.Helper()
	before := w.state()
	if x, e := sweep.Collect(w.h, w.r); x != (api.Report{}) || e != want {
		w.t.Errorf("%s: Collect: %+v, error %d, want error %d", what, x, e, want)
	}
	w.unchanged(what, before)
}

// all four kinds, one object of each being kept, and one not, each with references to itself: the addresses.
func fourKinds(t *testing.T) (world, []int) {
	w := newWorld(t, 4, 2)
	var all []int
	for i := range 8 {
		addr := w.put(64+64*(i/4)+6*(i%4), api.Shape{Refs: 3, Data: 1, Kind: i % 4})
		for ref := range 3 {
			w.refer(addr, ref, addr)
		}
		all = append(all, addr)
	}
	w.lead(all[:4]...)
	return w, all
}

// Numbers that are neither 0 nor the address of an object.
func noObjects() []int {
	return append([]int{1, 2, 62, 63, 65, 66, 67, 126, 127, 192, 254, 256, 300, 4096, -1, -2, -64}, beyond...)
}

// Collect of heaps and roots that no function returned, ahead of what is not sound.
func TestCollectNone(t *testing.T) {
	w, all := fourKinds(t)
	w.ok("Poke", w.h.Poke(all[0]+2, 1000))
	before := w.state()
	for _, r := range []*roots.Roots{w.r, nil, {}} {
		for _, h := range []*heap.Heap{w.h, nil, {}} {
			want := api.ErrArg
			if r == w.r && h == w.h {
				want = api.ErrState
			}
			if x, e := sweep.Collect(h, r); x != (api.Report{}) || e != want {
				t.Errorf("Collect: %+v, error %d, want %d", x, e, want)
			}
		}
	}
	w.unchanged("after Collect of none", before)
}

// Heaps that are not sound: any reference of any object, kept or not, of any kind, also such as do not keep.
func TestCollectBrokenReferences(t *testing.T) {
	w, all := fourKinds(t)
	for _, addr := range all {
		for ref := range 3 {
			for _, v := range noObjects() {
				c := w.clone()
				c.ok("Poke", c.h.Poke(addr+2+ref, v))
				c.refusesCollect(line("reference ", ref, " of ", addr, " being ", v), api.ErrState)
			}
			c := w.clone()
			c.ok("Poke", c.h.Poke(addr+2+ref, 0))
			if _, e := sweep.Collect(c.h, c.r); e != api.OK {
				t.Errorf("Collect: error %d", e)
			}
			c = w.clone()
			c.ok("Poke", c.h.Poke(addr+2+ref, all[7]))
			if _, e := sweep.Collect(c.h, c.r); e != api.OK {
				t.Errorf("Collect: error %d", e)
			}
		}
		c := w.clone()
		c.ok("Poke", c.h.Poke(addr+5, 65)) // a data word may be anything
		if _, e := sweep.Collect(c.h, c.r); e != api.OK {
			t.Errorf("Collect: error %d", e)
		}
	}
}

// A reference to an object that was killed, or moved.
func TestCollectLostObjects(t *testing.T) {
	w := newWorld(t, 4, 1)
	a, b := w.put(64, api.Shape{Refs: 15}), w.put(128, words4)
	w.refer(a, 14, b)
	killed, moved := w.clone(), w.clone()
	killed.kill(b)
	killed.refusesCollect("after Kill", api.ErrState)
	w.ok("Move", moved.h.Move(b, 130))
	moved.refusesCollect("after Move", api.ErrState)
	moved.refer(a, 14, 130)
	moved.collects(api.Report{Freed: 2, FreedWords: 22})
}

// Places that lead to no object.
func TestCollectBrokenPlaces(t *testing.T) {
	w, all := fourKinds(t)
	for _, p := range []api.Place{slot(0, 0), slot(0, 5), slot(1, 15), global(0), global(15)} {
		for _, v := range noObjects() {
			if v < 0 {
				continue
			}
			c := w.clone()
			c.set(p, v)
			c.refusesCollect(line("place ", p, " being ", v), api.ErrState)
		}
		c := w.clone()
		c.set(p, all[5])
		if _, e := sweep.Collect(c.h, c.r); e != api.OK {
			t.Errorf("Collect: error %d", e)
		}
	}
	w.ok("Push", w.r.Push(all[4]))
	w.ok("Push", w.r.Push(all[4]+2))
	w.refusesCollect("an element of the queue", api.ErrState)
}

// While blocks are left, objects that are not kept may lead to what is gone.
func TestCollectWhileBlocksAreLeft(t *testing.T) {
	w := newWorld(t, 4, 1)
	a, b, c := w.put(64, words2), w.put(128, api.Shape{Refs: 1}), w.put(132, words6)
	w.refer(b, 0, a)
	w.lead(c)
	s := w.keptSweeper()
	w.sweeps(s, 1, 2)
	w.refusesCollect("while a block is left", api.ErrState)
	w.finishes(s, 4)
	w.collects(api.Report{Kept: 1, KeptWords: 6, Scanned: 1})
}

// New without a heap, and with tables that are no marks of it.
func TestNewWithoutMarks(t *testing.T) {
	w := layout(t)
	before := w.state()
	entries := 32 * w.h.Blocks()
	tables := []*side.Table{nil, {}}
	for _, width := range []int{2, 4, 8} {
		tables = append(tables, newTable(t, entries, width), newTable(t, entries/width, width), newTable(t, entries*width, width))
	}
	for _, n := range []int{1, entries - 1, entries + 1, entries - 32, entries + 32, entries / 2, 2 * entries, 11, 64, api.MaxEntries} {
		tables = append(tables, newTable(t, n, 1))
	}
	for _, table := range tables {
		if s, e := sweep.New(w.h, table); s != nil || e != api.ErrArg {
			t.Errorf("New with %d entries of %d bits: error %d", table.Entries(), table.Width(), e)
		}
	}
	for _, table := range append(tables, w.marks()) {
		for _, h := range []*heap.Heap{nil, {}} {
			if s, e := sweep.New(h, table); s != nil || e != api.ErrArg {
				t.Errorf("New without a heap, with %d entries of %d bits: error %d", table.Entries(), table.Width(), e)
			}
		}
	}
	w.unchanged("after New that was refused", before)
}

// A heap that is not sound can be swept.
func TestSweepersOfBrokenHeaps(t *testing.T) {
	w, all := fourKinds(t)
	for i, addr := range all {
		w.ok("Poke", w.h.Poke(addr+2+i%3, noObjects()[i]))
	}
	w.set(global(3), 66)
	s := w.sweeper(all[1], all[6])
	w.sweeps(s, 2, 18)
	w.needs(s, 40, 1)
	w.has(all[1], all[6])
}

// A sweeper that is nil, or that no function returned.
func TestNoSweeper(t *testing.T) {
	h := layout(t).h
	numbers := append([]int{0, 1, 2, 9, 64, 65, 70, -1}, beyond...)
	for what, s := range map[string]*sweep.Sweeper{"a nil sweeper": nil, "a zero sweeper": {}} {
		for range 2 {
			for _, n := range numbers {
				if words, e := s.Block(n); words != 0 || e != api.ErrState {
					t.Errorf("%s: Block(%d): %d, error %d", what, n, words, e)
				}
				if block, e := s.Need(n); block != 0 || e != api.ErrState {
					t.Errorf("%s: Need(%d): %d, error %d", what, n, block, e)
				}
				if e := s.Born(n); e != api.ErrState {
					t.Errorf("%s: Born(%d): error %d", what, n, e)
				}
			}
			if words, e := s.Finish(); words != 0 || e != api.ErrState {
				t.Errorf("%s: Finish: %d, error %d", what, words, e)
			}
			if left := s.Left(); len(left) != 0 {
				t.Errorf("%s: Left: %v", what, left)
			}
			for _, on := range []*heap.Heap{h, nil, {}} {
				if s.Clone(on) != nil {
					t.Errorf("%s: a clone", what)
				}
			}
		}
	}
}
