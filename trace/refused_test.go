package trace_test

import (
	"testing"

	"dustcart/api"
	"dustcart/heap"
	"dustcart/roots"
	"dustcart/side"
	"dustcart/trace"
)

// tangled is a world with something of all kinds, some of it broken.
func tangled(t *testing.T) world {
	t.Helper()
	w := graph(t, []int{1, 4, 6}, plainNode(2, 3), weakNode(5, 1), pairNode(1, 6), pairNode(7, 5), plainNode(), otherNode(1, 7, 6), plainNode(), weakNode(3))
	w.kill(7)
	w.poke(1, 0, -8)
	w.set(global(3), 66)
	w.push(w.at(3))
	w.push(1000)
	w.h.Pin(w.at(5))
	return w
}

// refuses checks the errors of Mark and Share.
func (w world) refuses(what string, h *heap.Heap, r *roots.Roots, order, limit, workers int) {
	w.t.Helper()
	if m, done, e := trace.Mark(h, r, order, limit); m != nil || done != (api.Traced{}) || e != api.ErrArg {
		w.t.Errorf("%s: Mark(%d, %d): %v, %+v, error %d", what, order, limit, m, done, e)
	}
	if m, counts, stolen, e := trace.Share(h, r, workers); m != nil || len(counts) != 0 || stolen != 0 || e != api.ErrArg {
		w.t.Errorf("%s: Share(%d): %v, %v, %d, error %d", what, workers, m, counts, stolen, e)
	}
}

// Numbers that are no order, no limit, and no number of workers, however great or small.
func TestWrongNumbers(t *testing.T) {
	w := tangled(t)
	before := w.state()
	for _, order := range append([]int{-1, -2, 2, 3, 4096}, beyond...) {
		for _, limit := range append(nowhere(api.MaxEntries), 1, 2, api.MaxEntries) {
			w.refuses("no order", w.h, w.r, order, limit, 0)
		}
	}
	for order := range orders {
		for _, limit := range nowhere(api.MaxEntries) {
			w.refuses("no limit", w.h, w.r, order, limit, 9)
		}
		for _, limit := range []int{1, 2, api.MaxEntries - 1, api.MaxEntries} {
			if _, _, e := trace.Mark(w.h, w.r, order, limit); e != api.OK {
				t.Errorf("Mark(%d, %d): error %d", order, limit, e)
			}
		}
	}
	for _, workers := range nowhere(mostWorkers) {
		w.refuses("no workers", w.h, w.r, 2, 0, workers)
	}
	w.unchanged("after calls that were refused", before)
}

// Heaps and roots that no function returned.
func TestNoHeapNoRoots(t *testing.T) {
	w := tangled(t)
	before := w.state()
	addrs := append([]int{64, w.at(3), 0, -2, 66, 1000}, beyond...)
	refused := func(what string, h *heap.Heap, r *roots.Roots) {
		t.Helper()
		for order := range orders {
			for _, limit := range append(nowhere(api.MaxEntries), 1, 7, api.MaxEntries) {
				for _, workers := range []int{1, 8, 0, 9} {
					w.refuses(what, h, r, order, limit, workers)
				}
			}
		}
		if list, e := trace.Kept(h, r); len(list) != 0 || e != api.ErrArg {
			t.Errorf("%s: Kept: %v, error %d", what, list, e)
		}
		for _, addr := range addrs { // ErrArg is ahead of ErrNone
			if list, e := trace.Shortest(h, r, addr); len(list) != 0 || e != api.ErrArg {
				t.Errorf("%s: Shortest(%d): %v, error %d", what, addr, list, e)
			}
		}
	}
	for what, h := range map[string]*heap.Heap{"a nil heap": nil, "a zero heap": {}} {
		refused(what, h, w.r)
		refused(what, h, nil)
		refused(what, h, &roots.Roots{})
		for _, addr := range addrs {
			for _, table := range []*side.Table{nil, {}, w.marksOf(1)} {
				if trace.Marked(h, table, addr) {
					t.Errorf("%s: Marked(%d)", what, addr)
				}
				if n, e := trace.Clear(h, table); n != 0 || e != api.ErrArg {
					t.Errorf("%s: Clear: %d, error %d", what, n, e)
				}
			}
		}
	}
	for what, r := range map[string]*roots.Roots{"nil roots": nil, "zero roots": {}} {
		refused(what, w.h, r)
	}
	w.unchanged("after calls with what no function returned", before)
}

// Tables that are no marks: Clear changes nothing.
func TestNoMarks(t *testing.T) {
	w := tangled(t)
	before := w.state()
	entries := 32 * w.h.Blocks()
	tables := []*side.Table{nil, {}}
	for _, width := range []int{2, 4, 8} {
		tables = append(tables, w.table(entries, width), w.table(entries/width, width), w.table(entries*width, width))
	}
	for _, n := range []int{1, entries - 1, entries + 1, entries / 2, 2 * entries, 64, api.MaxEntries} {
		tables = append(tables, w.table(n, 1))
	}
	for _, table := range tables {
		table.Fill(0, table.Entries(), 1)
		if n, e := trace.Clear(w.h, table); n != 0 || e != api.ErrArg {
			t.Errorf("Clear with %d entries of %d bits: %d, error %d", table.Entries(), table.Width(), n, e)
		}
		for _, addr := range w.h.All() {
			if trace.Marked(w.h, table, addr) {
				t.Errorf("Marked(%d) with %d entries of %d bits", addr, table.Entries(), table.Width())
			}
		}
	}
	w.unchanged("after calls with no marks", before)
	other, _ := heap.New(w.h.Blocks() + 1)
	if n, e := trace.Clear(other, w.marksOf(1)); n != 0 || e != api.ErrArg {
		t.Errorf("Clear with marks of another heap: %d, error %d", n, e)
	}
}

// Clones are as good as what New returned, and stay apart.
func TestClones(t *testing.T) {
	w := clearable(t)
	c := w.clone()
	m, done, e := trace.Mark(c.h, c.r, Oldest, 2)
	_, want, eW := trace.Mark(w.h, w.r, Oldest, 2)
	if e != api.OK || eW != api.OK || done != want {
		t.Errorf("Mark of clones: %+v, error %d, want %+v, error %d", done, e, want, eW)
	}
	before := w.state()
	c.clears(m.Clone(), 4)
	w.unchanged("after Clear of a clone", before)
	w.clears(m, 4)
	c.unchanged("both being cleared", w.state())
}
