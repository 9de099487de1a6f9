package compact_test

import (
	"testing"

	"dustcart/api"
	"dustcart/compact"
	"dustcart/heap"
	"dustcart/roots"
)

// refusesAll checks that Collect and each Space return an error, and change nothing.
func (w world) refusesAll(what string, want api.Errno) {
	w.t.Helper()
	before := w.state()
	for space := everywhere; space < api.MaxSpaces; space++ {
		if x, list, e := w.run(space); x != (api.Report{}) || len(list) != 0 || e != want {
			w.t.Errorf("%s: of %d: %+v, %v, error %d, want error %d", what, space, x, list, e, want)
		}
	}
	w.unchanged(what, before)
}

// fourKinds makes two objects of each kind, of which one is kept, each with references to itself: the addresses. All of them would be moved.
func fourKinds(t *testing.T) (world, []int) {
	t.Helper()
	w := newWorld(t, 5, 2)
	var all []int
	for i := range 8 {
		addr := w.put(66+64*(i/4)+8*(i%4), api.Shape{Refs: 3, Data: 1, Kind: i % 4})
		w.refs(addr, addr, addr, addr)
		all = append(all, addr)
	}
	for _, addr := range all[:4] {
		w.also(addr)
	}
	return w, all
}

// noObjects are numbers that are neither 0 nor the address of an object of fourKinds.
func noObjects() []int {
	return append([]int{1, 2, 62, 63, 64, 65, 67, 68, 126, 127, 128, 192, 254, 256, 300, 4096, -1, -2, -64, -66}, beyond...)
}

// Numbers that are no spaces, ahead of what is not sound.
func TestNoSpace(t *testing.T) {
	w, all := fourKinds(t)
	broken := w.clone()
	broken.ok("Poke", broken.h.Poke(all[0]+2, 1000))
	for _, c := range []world{w, broken} {
		before := c.state()
		for _, space := range append([]int{-1, -2, -8, api.MaxSpaces, api.MaxSpaces + 1, 15, 64, 256}, beyond...) {
			if x, list, e := compact.Space(c.h, c.r, space); x != (api.Report{}) || len(list) != 0 || e != api.ErrArg {
				t.Errorf("Space(%d): %+v, %v, error %d", space, x, list, e)
			}
		}
		c.unchanged("after Space that was refused", before)
	}
	for space := range api.MaxSpaces {
		if x, _ := w.clone().collect(space); x.Kept != 4 || x.Freed != 4 {
			t.Errorf("Space(%d): %+v", space, x)
		}
	}
}

// Heaps and roots that no function returned, ahead of what is not sound.
func TestNoHeapNoRoots(t *testing.T) {
	w, all := fourKinds(t)
	broken := w.clone()
	broken.ok("Poke", broken.h.Poke(all[0]+2, 1000))
	for _, c := range []world{w, broken} {
		before := c.state()
		for _, r := range []*roots.Roots{c.r, nil, {}} {
			for _, h := range []*heap.Heap{c.h, nil, {}} {
				if r == c.r && h == c.h {
					continue
				}
				if x, list, e := compact.Collect(h, r); x != (api.Report{}) || len(list) != 0 || e != api.ErrArg {
					t.Errorf("Collect: %+v, %v, error %d", x, list, e)
				}
				for space := -1; space <= api.MaxSpaces; space++ {
					if x, list, e := compact.Space(h, r, space); x != (api.Report{}) || len(list) != 0 || e != api.ErrArg {
						t.Errorf("Space(%d): %+v, %v, error %d", space, x, list, e)
					}
				}
			}
		}
		c.unchanged("after collections of none", before)
	}
}

// Heaps that are not sound: any reference of any object, kept or not, of any kind, also such as do not keep.
func TestBrokenReferences(t *testing.T) {
	w, all := fourKinds(t)
	for _, addr := range all {
		for ref := range 3 {
			for _, v := range noObjects() {
				c := w.clone()
				c.ok("Poke", c.h.Poke(addr+2+ref, v))
				c.refusesAll(line("reference ", ref, " of ", addr, " being ", v), api.ErrState)
			}
			for _, v := range []int{0, all[7]} {
				c := w.clone()
				c.ok("Poke", c.h.Poke(addr+2+ref, v))
				c.clone().collect(ref)
				c.collect(everywhere)
			}
		}
		c := w.clone()
		c.ok("Poke", c.h.Poke(addr+5, 65)) // a data word may be anything
		c.collect(everywhere)
	}
}

// Objects that are not kept, in other spaces, large or pinned, that are not sound.
func TestBrokenElsewhere(t *testing.T) {
	w := newWorld(t, 8, 1)
	w.keep(words4, 70)
	w.claim(0, 2)
	w.put(130, api.Shape{Refs: 15})
	w.put(192, api.Shape{Refs: 2, Data: 100})
	w.put(320, api.Shape{Refs: 1})
	w.pin(320)
	for _, addr := range []int{146, 195, 322} {
		c := w.clone()
		c.ok("Poke", c.h.Poke(addr, 64))
		c.refusesAll(line("the word ", addr), api.ErrState)
	}
	w.collects(everywhere, api.Report{Kept: 1, KeptWords: 4, Freed: 3, FreedWords: 126, Moved: 1, MovedWords: 4, Scanned: 1}, moves(70, 64)...)
}

// Places that lead to no object.
func TestBrokenPlaces(t *testing.T) {
	w, all := fourKinds(t)
	for _, p := range []api.Place{slot(0, 0), slot(0, 5), slot(1, 15), global(0), global(15)} {
		for _, v := range noObjects() {
			if v < 0 {
				continue
			}
			c := w.clone()
			c.set(p, v)
			c.refusesAll(line("place ", p, " being ", v), api.ErrState)
		}
		c := w.clone()
		c.set(p, all[5])
		c.collect(everywhere)
	}
	w.push(all[4])
	w.clone().collect(everywhere)
	w.push(all[4] + 2)
	w.refusesAll("an element of the queue", api.ErrState)
}

// A reference to an object that was killed, or moved: forwards do not make it sound.
func TestLostObjects(t *testing.T) {
	w := newWorld(t, 5, 1)
	a, b := w.put(64, api.Shape{Refs: 15}), w.put(128, words4)
	w.ok("SetRef", w.h.SetRef(a, 14, b))
	killed, moved, led := w.clone(), w.clone(), w.clone()
	killed.ok("Kill", killed.h.Kill(b))
	killed.refusesAll("after Kill", api.ErrState)
	moved.ok("Move", moved.h.Move(b, 130))
	moved.refusesAll("after Move", api.ErrState)
	moved.ok("SetRef", moved.h.SetRef(a, 14, 130))
	moved.collects(everywhere, api.Report{Freed: 2, FreedWords: 22})
	led.also(b)
	led.collects(everywhere, api.Report{Kept: 1, KeptWords: 4, Freed: 1, FreedWords: 18, Moved: 1, MovedWords: 4, Scanned: 1}, moves(b, 64)...)
	led.also(b)
	led.refusesAll("a place that leads to where an object was", api.ErrState)
}

// Nothing is cleared, killed, moved or released before a heap is found not to be sound.
func TestStateChangesNothing(t *testing.T) {
	w := newWorld(t, 6, 1)
	dead := w.put(70, words4)
	w.node(80, api.Weak, dead)
	w.node(90, api.Ephemeron, dead, 80)
	w.put(128, words34)
	w.claim(0, 4)
	w.put(192, api.Shape{Refs: 1})
	w.ok("Move", w.h.Move(dead, 74))
	w.refs(80, 74)
	w.refs(90, 74)
	w.also(80)
	w.also(90)
	w.push(80)
	w.ok("Poke", w.h.Poke(194, 70))
	w.refusesAll("with one reference to where an object was", api.ErrState)
	w.ok("Poke", w.h.Poke(194, 0))
	w.set(global(3), 70)
	w.refusesAll("with one place that leads to where an object was", api.ErrState)
	w.set(global(3), 0)
	w.collects(everywhere, api.Report{Kept: 2, KeptWords: 8, Freed: 3, FreedWords: 42, Moved: 2, MovedWords: 8, Scanned: 2, Cleared: 2}, moves(80, 64, 90, 68)...)
}
